import Derived.Test.YtmlbofbnklmedaaS2
/-! One turn up, of every value. -/
namespace Go.Proofs.Ytmlbofbnklmedaa
open Go Go.RowKit

/-- What with answers. -/
def WithPost (w : World) (S : Nat → Prop) (R : Tr) (e : Ending) (w' : World) : Prop :=
  Below w.heap.size w w' ∧ ∃ cs k9 x9 s9 a9 l9 d9 i9 j9 e9, e = .returned (.agg cs.toArray) ∧ cs = five k9 x9 s9 (.slice a9 l9 d9) (.slice i9 j9 e9) ∧ Seen w' (fun k => S k ∨ w.heap.size ≤ k) R cs
theorem anew_any (k x : Int) (tx : ByteArray) (ns : List ByteArray) (its : List Tr) (cs : List Value) (hk : k = 5 ∨ k = 6) (hb : (its.length + 1) * 80 ≤ 281474976710656) (w0 w : World) (h0 : Below w0.heap.size w0 w) (hV : VRep w0 (.node k x tx ns its) cs) :
    ∃ xs, ItemsRep w0 (keepIts k ns its) xs ∧ Calls Try.prog 51 #[.agg cs.toArray] w (Anew w k (keepIts k ns its).length (strs (keepNs k ns its)) xs) := by
  obtain ⟨an, cn, ai, ci, xs, rfl, hcn, hci, hN, hI, hR⟩ := hV.parts
  have hN' := hN.keep h0
  have hI' := hI.keep h0
  rcases hk with rfl | rfl
  · exact ⟨xs, hR, anew5 x tx an ns.length cn ai its.length ci _ xs hR.length hb hR.ones w hI'⟩
  · have hl : (its.take (min ns.length its.length)).length = min ns.length its.length := by rw [List.length_take]; omega
    refine ⟨xs.take (min ns.length its.length * 5), hR.take _, ?_⟩
    have := anew6 x tx an ns.length cn ai its.length ci (min ns.length its.length) (strs (ns.take (min ns.length its.length))) (xs.take (min ns.length its.length * 5)) rfl hcn.1 hci.1 (by rw [strs_length, List.length_take]; omega) (by rw [List.length_take, hR.length]; omega) (by omega) (strs1 _) (fun v hv => hR.ones v (List.mem_of_mem_take hv)) w (by rw [← strs_take]; exact hN'.take _) (hI'.take _)
    unfold keepIts keepNs
    rw [if_pos rfl, if_pos rfl, hl]
    exact this

theorem row_at5 {W : World} {lo : Nat} {e : TypeId} {g n cap : Nat} {xs : List Value} (h : W.ownsRow lo e 5 (.slice (some ⟨g, 0, none⟩) n cap) n xs) (j : Nat) (hj : j < n * 5) : ∃ u, W.cell? ⟨g, j, none⟩ = some u := by
  refine ⟨xs[j]'(by rw [h.1]; omega), ?_⟩
  have := h.cellAt j hj
  rw [List.getElem?_eq_getElem (by rw [h.1]; omega)] at this
  exact this
set_option maxHeartbeats 600000 in
set_option maxRecDepth 100000 in
theorem with_set (k x : Int) (tx : ByteArray) (an : Option Addr) (ln cn : Nat) (ai : Option Addr) (li ci : Nat) (sg : ByteArray) (m n : Nat) (hm : m < n) (k1 x1 : Int) (s1 : ByteArray) (an1 : Option Addr) (ln1 cn1 : Nat) (ai1 : Option Addr) (li1 ci1 : Nat) (ns : List ByteArray) (its : List Tr) (hn : its.length = n) (xs : List Value) (X : Tr) (S : Nat → Prop) (w0 w : World) (h0 : Below w0.heap.size w0 w) (hS : ∀ k, k < w0.heap.size → S k)
    (hI : ItemsRep w0 its xs) (hX : Seen w S X (five k1 x1 s1 (.slice an1 ln1 cn1) (.slice ai1 li1 ci1)))
    (hA : ∀ W, Below w.heap.size w W → Calls Try.prog 51 #[.agg #[.int .i64 k, .int .i64 x, .string tx, .slice an ln cn, .slice ai li ci]] W (Anew W k n (strs ns) xs)) (hk : k = 5 → ns = []) (hk6 : k = 6 → ns.length = n) :
    Calls Try.prog 48 #[.agg #[.int .i64 k, .int .i64 x, .string tx, .slice an ln cn, .slice ai li ci, .string sg, .int .i64 m], .agg #[.int .i64 k1, .int .i64 x1, .string s1, .slice an1 ln1 cn1, .slice ai1 li1 ci1]] w (WithPost w S (.node k 0 ⟨#[]⟩ ns (its.set m X))) := by
  have hB3 : ∀ p1 p2 p3, Below w.heap.size w (((w.alloc p1).alloc p2).alloc p3) := fun p1 p2 p3 => ((Below.refl _ w).alloc (Nat.le_refl _) p1).alloc (by simp) p2 |>.alloc (by simp; omega) p3
  have hn0 : ∀ o1 o2 o3, (((w.alloc o1).alloc o2).alloc o3).heap[w.heap.size]? = some o1 := fun o1 o2 o3 => (Below.heap_alloc _ _ _ (by simp; omega)).trans (new1 w o1 o2)
  have hn1 : ∀ o1 o2 o3, (((w.alloc o1).alloc o2).alloc o3).heap[w.heap.size + 1]? = some o2 := fun o1 o2 o3 => (Below.heap_alloc _ _ _ (by simp)).trans (new2 w o1 o2)
  have hn2 : ∀ o1 o2 o3, (((w.alloc o1).alloc o2).alloc o3).heap[w.heap.size + 1 + 1]? = some o3 := fun o1 o2 o3 => heap_new' (by simp)
  have hA' := fun p1 p2 p3 => hA _ (hB3 p1 p2 p3)
  clear hA
  go_enter Try.func48, Try.ntmps48
  go_wp2_with fail
  refine (hA' _ _ _).mono ?_
  rintro e w4 ⟨hb4, nm, gi, rfl, hrow, hnm⟩
  clear hA'
  have t0 := (hb4.block _ (by simp; omega)).trans (hn0 _ _ _)
  have t1 := (hb4.block _ (by simp)).trans (hn1 _ _ _)
  have t2 := (hb4.block _ (by simp)).trans (hn2 _ _ _)
  have HB : Below w.heap.size w w4 := (hB3 _ _ _).trans (hb4.mono (by simp; omega))
  have hsz : w.heap.size + 3 ≤ w4.heap.size := by have := hb4.size; simp at this; omega
  simp only [World.size_alloc] at hrow hnm
  clear hb4 hB3 hn0 hn1 hn2
  have hgi := ownsRow_ge hrow (g := gi) rfl
  have hnmS : SeenR w4 (fun k => w.heap.size + 1 + 1 + 1 ≤ k ∧ k ≠ gi) nm ns := by
    rcases hnm with ⟨rfl, rfl⟩ | ⟨rfl, gn, hne, rfl, hnr⟩
    · rw [hk rfl]; exact fun W' _ => ⟨none, 0, rfl, ⟨Nat.le_refl _, by omega⟩, .inl rfl⟩
    · obtain rfl := hk6 rfl
      exact fun W' ha => own_reads hnr (show _ ∧ _ from ⟨(ownsRow_ge hnr (g := gn) rfl).1, hne⟩) ha
  obtain ⟨anm, lnm, cnm, rfl⟩ : ∃ a l c, nm = .slice a l c := by
    rcases hnm with ⟨_, rfl⟩ | ⟨_, gn, _, rfl, _⟩
    · exact ⟨_, _, _, rfl⟩
    · exact ⟨_, _, _, rfl⟩
  clear hnm hk hk6
  obtain ⟨W5, hW5⟩ : ∃ W5, Hid (w4.alloc (.cells #[.int .i64 k, .int .i64 0, .string ⟨#[]⟩, .slice anm lnm cnm, .slice (some ⟨gi, 0, none⟩) n (n + 1)] 25) = W5) := ⟨_, rfl⟩
  have hb5 : Below w4.heap.size w4 W5 := by rw [← hW5.out]; exact (Below.refl _ w4).alloc (Nat.le_refl _) _
  have hs5 : W5.heap.size = w4.heap.size + 1 := by rw [← hW5.out]; simp
  have t5 : W5.heap[w4.heap.size]? = some (.cells #[.int .i64 k, .int .i64 0, .string ⟨#[]⟩, .slice anm lnm cnm, .slice (some ⟨gi, 0, none⟩) n (n + 1)] 25) := by rw [← hW5.out]; exact heap_alloc_new w4 _
  replace t0 := (hb5.block _ (by omega)).trans t0
  replace t1 := (hb5.block _ (by omega)).trans t1
  replace t2 := (hb5.block _ (by omega)).trans t2
  replace hrow := ownsRow_below hrow hb5
  have i6 : W5.cell? ⟨w.heap.size, 6, none⟩ = some (.int .i64 m) := by simp [World.cell?, t0]
  obtain ⟨y0, y1, y2, y3, y4, -⟩ := row_cells t1
  have v4' : W5.cell? ⟨w4.heap.size, 4, none⟩ = some (.slice (some ⟨gi, 0, none⟩) n (n + 1)) := by simp [World.cell?, t5]
  obtain ⟨u0, c0⟩ := row_at5 hrow (m * 5) (by omega)
  have f0 := hrow.frozenAt (m * 5)
  obtain ⟨u1, c1⟩ := row_at5 hrow (m * 5 + 1) (by omega)
  have f1 := hrow.frozenAt (m * 5 + 1)
  obtain ⟨u2, c2⟩ := row_at5 hrow (m * 5 + 2) (by omega)
  have f2 := hrow.frozenAt (m * 5 + 2)
  obtain ⟨u3, c3⟩ := row_at5 hrow (m * 5 + 3) (by omega)
  have f3 := hrow.frozenAt (m * 5 + 3)
  obtain ⟨u4, c4⟩ := row_at5 hrow (m * 5 + 4) (by omega)
  have f4 := hrow.frozenAt (m * 5 + 4)
  obtain ⟨W6, hW6⟩ : ∃ W6, Hid ((((((W5.setCell ⟨gi, m * 5, none⟩ (.int .i64 k1)).setCell ⟨gi, m * 5 + 1, none⟩ (.int .i64 x1)).setCell ⟨gi, m * 5 + 2, none⟩ (.string s1)).setCell ⟨gi, m * 5 + 3, none⟩ (.slice an1 ln1 cn1)).setCell ⟨gi, m * 5 + 4, none⟩ (.slice ai1 li1 ci1)) = W6) := ⟨_, rfl⟩
  have r6 := (((((hrow.stored (m * 5) (.int .i64 k1)).1.stored (m * 5 + 1) (.int .i64 x1)).1.stored (m * 5 + 2) (.string s1)).1.stored (m * 5 + 3) (.slice an1 ln1 cn1)).1.stored (m * 5 + 4) (.slice ai1 li1 ci1)).1
  rw [hW6.out] at r6
  have k6 : ∀ j, j ≠ gi → W6.heap[j]? = W5.heap[j]? := fun j hj => by rw [← hW6.out]; exact (Below.heap_setCell _ _ _ _ hj).trans ((Below.heap_setCell _ _ _ _ hj).trans ((Below.heap_setCell _ _ _ _ hj).trans ((Below.heap_setCell _ _ _ _ hj).trans (Below.heap_setCell _ _ _ _ hj))))
  have s6 : W6.heap.size = W5.heap.size := by rw [← hW6.out]; simp [World.setCell]
  have B5 : Below w.heap.size w W5 := HB.trans (hb5.mono HB.size)
  have B6 : Below w.heap.size w W6 := ⟨by rw [← hW6.out]; exact B5.os, by rw [← hW6.out]; exact B5.tape, by rw [← hW6.out]; exact B5.output, by rw [s6]; exact B5.size, fun j hj => (k6 j (by omega)).trans (B5.block j hj)⟩
  have t56 := (k6 _ (by omega)).trans t5
  have t26 := (k6 _ (by omega)).trans t2
  obtain ⟨v0, v1, v2, v3, v4, -⟩ := row_cells t56
  obtain ⟨z0, z1, z2, z3, z4, zf⟩ := row_cells t26
  have g0 := zf 0; have g1 := zf 1; have g2 := zf 2; have g3 := zf 3; have g4 := zf 4
  clear zf
  have nm6 : SeenR W6 (fun k => w.heap.size + 1 + 1 + 1 ≤ k ∧ k ≠ gi) (.slice anm lnm cnm) ns := fun W' ha => hnmS W' ⟨by have := ha.1; omega, fun p u hp hc => ha.2 p u hp ((World.cell?_of_block (w := W5) (k6 p.block hp.2)).trans ((hb5.cell (cell_lt hc)).trans hc))⟩
  have hd : decide ((m : Int) < (n : Int)) = true := by simp; omega
  have i1 : (m : Int) < (n : Int) := by omega
  have i2 : (0 : Int) ≤ (m : Int) := by omega
  replace nm6 := hid_of nm6; replace r6 := hid_of r6; replace t26 := hid_of t26; replace B6 := hid_of B6; replace s6 := hid_of s6; replace hs5 := hid_of hs5; replace hsz := hid_of hsz
  replace hX := hid_of hX; replace hI := hid_of hI; replace h0 := hid_of h0; replace HB := hid_of HB; replace hS := hid_of hS; replace hgi := hid_of hgi
  clear k6 B5 hb5 t5 t2 t1 t0 hnmS hrow t56
  go_wp2_with (first | rw [hW5.out] | rw [hW6.out])
  have hr := put5_cells t26.out (.int .i64 k) (.int .i64 0) (.string ⟨#[]⟩) (.slice anm lnm cnm) (.slice (some ⟨gi, 0, none⟩) n (n + 1))
  have q0 := hr 0; have q1 := hr 1; have q2 := hr 2; have q3 := hr 3; have q4 := hr 4
  clear hr
  refine bodyPost_ret (v := .agg #[.int .i64 k, .int .i64 0, .string ⟨#[]⟩, .slice anm lnm cnm, .slice (some ⟨gi, 0, none⟩) n (n + 1)]) (by simp [results, Try.results48, go_sem, q0, q1, q2, q3, q4]) rfl ?_
  clear q0 q1 q2 q3 q4 z0 z1 z2 z3 z4 g0 g1 g2 g3 g4 v0 v1 v2 v3 v4
  have hgi1 := hgi.out; have hsz1 := hsz.out; have hs51 := hs5.out; have s61 := s6.out
  have hBf : Below w.heap.size w (put5 W6 (w.heap.size + 1 + 1) (.int .i64 k) (.int .i64 0) (.string ⟨#[]⟩) (.slice anm lnm cnm) (.slice (some ⟨gi, 0, none⟩) n (n + 1))) := B6.out.trans (put5_below (by omega) _ _ _ _ _)
  refine ⟨hBf, five k 0 ⟨#[]⟩ (.slice anm lnm cnm) (.slice (some ⟨gi, 0, none⟩) n (n + 1)), _, _, _, _, _, _, _, _, _, rfl, rfl, ?_⟩
  have hlen : (its.set m X).length = n := by rw [List.length_set]; exact hn
  have hfin := with_fin (k := k) (ns := ns) (its := its.set m X) (nm := .slice anm lnm cnm) (gi := gi) (ci := n + 1) h0.out hS.out hBf (by
    rw [hlen]
    exact ownsRow_keep (ownsRow_lo r6.out (by omega)) (fun g hg => by cases hg; exact put5_far _ _ _ _ _ (show gi ≠ w.heap.size + 1 + 1 by omega))) (fun W' ha => nm6.out W' ⟨by have := ha.1; rw [put5_size] at this; exact this, fun p u hp hc => ha.2 p u (show w.heap.size ≤ p.block by have := hp.1; omega) ((World.cell?_of_block (w := W6) (put5_far _ _ _ _ _ (show p.block ≠ w.heap.size + 1 + 1 by have := hp.1; omega))).trans hc)⟩) (fun W' hk hs ha => by
      refine ItemsRep.set (seen_next hX.out hBf (fun _ h => .inl h) ha) m (by omega) (hI.out.mono hk hs))
  rw [hlen] at hfin
  exact hfin
end Go.Proofs.Ytmlbofbnklmedaa
/-! One turn up, of every value: a new item: what it leans on. -/
namespace Go.Proofs.Ytmlbofbnklmedaa
open Go Go.RowKit

/-- Ahead of the items' append: the box of v (at B), x's (at b + 1), the answer's (at b + 2), the row of the items. -/
structure AtApp (w W : World) (B gi n : Nat) (k : Int) (nm : Value) (ns : List ByteArray) (k1 x1 : Int) (s1 : ByteArray) (nx ix : Value) (xs : List Value) : Prop where
  lo : w.heap.size + 3 ≤ B
  hi : B < W.heap.size
  gne : gi ≠ B
  below : Below w.heap.size w W
  x : W.heap[w.heap.size + 1]? = some (.cells #[.int .i64 k1, .int .i64 x1, .string s1, nx, ix] 25 (0, 0))
  r : W.heap[w.heap.size + 1 + 1]? = some (.cells #[.int .i64 0, .int .i64 0, .string ⟨#[]⟩, .slice none 0 0, .slice none 0 0] 25 (0, 0))
  box : W.heap[B]? = some (.cells #[.int .i64 k, .int .i64 0, .string ⟨#[]⟩, nm, .slice (some ⟨gi, 0, none⟩) n (n + 1)] 25 (0, 0))
  row : W.ownsRow (w.heap.size + 1 + 1 + 1) 25 5 (.slice (some ⟨gi, 0, none⟩) n (n + 1)) n xs
  names : SeenR W (fun j => w.heap.size + 1 + 1 + 1 ≤ j ∧ j ≠ gi ∧ j ≠ B) nm ns
theorem set_at {W : World} {B j : Nat} {cur : Array Value} {t : TypeId} (h : W.heap[B]? = some (.cells cur t (0, 0))) (v : Value) : (W.setCell ⟨B, j, none⟩ v).heap[B]? = some (.cells (cur.setIfInBounds j v) t (0, 0)) := by
  simp [World.setCell, Array.getElem?_modify, h]
theorem grown_app {W w8 : World} {o : Obj} {v : Value} {g : Nat} (hv : v.ownBlock = some g) (h : (W.alloc o).grownBy w8 v.ownBlock) : ∀ j, j < W.heap.size → j ≠ g → w8.heap[j]? = W.heap[j]? := fun j hj hne =>
  (h.block j (by rw [World.size_alloc]; omega) (fun e => by rw [hv] at e; cases e; exact hne rfl)).trans (Below.heap_alloc W o j hj)
/-- Behind the names' append. -/
theorem app_names {w W w6 W7 : World} {B gi gn g6 c6 n : Nat} {k : Int} {ns : List ByteArray} {k1 x1 : Int} {s1 : ByteArray} {nx ix : Value} {xs : List Value} {o : Obj} {sg : ByteArray} (hns : ns.length = n)
    (h : AtApp w W B gi n k (.slice (some ⟨gn, 0, none⟩) n (n + 1)) ns k1 x1 s1 nx ix xs) (hgn : w.heap.size + 1 + 1 + 1 ≤ gn ∧ gn < W.heap.size) (hne : gn ≠ gi) (hnB : gn ≠ B)
    (hown : w6.ownsRow (w.heap.size + 1 + 1 + 1) 9 1 (.slice (some ⟨g6, 0, none⟩) (n + 1) c6) (n + 1) (strs ns ++ [.string sg])) (hgrow : (W.alloc o).grownBy w6 (Value.slice (some ⟨gn, 0, none⟩) n (n + 1)).ownBlock) (hat : (Value.slice (some ⟨gn, 0, none⟩) n (n + 1)).ownBlock = some g6 ∨ g6 = (W.alloc o).heap.size)
    (hW7 : w6.setCell ⟨B, 3, none⟩ (.slice (some ⟨g6, 0, none⟩) (n + 1) c6) = W7) : AtApp w W7 B gi n k (.slice (some ⟨g6, 0, none⟩) (n + 1) c6) (ns ++ [sg]) k1 x1 s1 nx ix xs := by
  have hfar := grown_app (g := gn) rfl hgrow
  have hgi := ownsRow_ge h.row (g := gi) rfl
  have hlo := h.lo
  have hhi := h.hi
  have hsz := hgrow.size
  rw [World.size_alloc] at hsz hat
  have hg6 : g6 ≠ B ∧ g6 ≠ gi ∧ w.heap.size + 1 + 1 + 1 ≤ g6 := by
    rcases hat with e | e
    · simp [Value.ownBlock] at e; subst e; exact ⟨hnB, hne, hgn.1⟩
    · omega
  have h7 : ∀ j, j ≠ B → W7.heap[j]? = w6.heap[j]? := fun j hj => by rw [← hW7]; exact Below.heap_setCell _ _ _ _ hj
  have s7 : W7.heap.size = w6.heap.size := by rw [← hW7]; simp [World.setCell]
  have hle := h.below.size
  refine ⟨h.lo, by omega, h.gne, ⟨?_, ?_, ?_, by omega, fun j hj => ?_⟩, ?_, ?_, ?_, ?_, ?_⟩
  · rw [← hW7]; exact hgrow.os.trans h.below.os
  · rw [← hW7]; exact hgrow.tape.trans h.below.tape
  · rw [← hW7]; exact hgrow.output.trans h.below.output
  · exact (h7 j (by omega)).trans ((hfar j (by omega) (by omega)).trans (h.below.block j hj))
  · exact (h7 _ (by omega)).trans ((hfar _ (by omega) (by omega)).trans h.x)
  · exact (h7 _ (by omega)).trans ((hfar _ (by omega) (by omega)).trans h.r)
  · rw [← hW7]
    exact set_at ((hfar B h.hi (fun e => hnB e.symm)).trans h.box) _
  · exact ownsRow_keep h.row (fun g hg => by cases hg; exact (h7 _ h.gne).trans (hfar _ hgi.2 (fun e => hne e.symm)))
  · refine fun W' ha => ?_
    have hk : W7.ownsRow (w.heap.size + 1 + 1 + 1) 9 1 (.slice (some ⟨g6, 0, none⟩) (n + 1) c6) (n + 1) (strs ns ++ [.string sg]) := ownsRow_keep hown (fun g hg => by cases hg; exact h7 _ hg6.1)
    have hl : (ns ++ [sg]).length = n + 1 := by simp [hns]
    rw [← strs_snoc, ← hl] at hk
    rw [← hl]
    exact own_reads hk (show _ ∧ _ ∧ _ from ⟨hg6.2.2, hg6.2.1, hg6.1⟩) ha
/-- Behind the items' append: the answer. -/
theorem app_items {w w0 W w8 W9 Wf : World} {S : Nat → Prop} {B gi g8 c8 n : Nat} {k : Int} {nm : Value} {ns : List ByteArray} {k1 x1 : Int} {s1 : ByteArray} {an1 : Option Addr} {ln1 cn1 : Nat} {ai1 : Option Addr} {li1 ci1 : Nat} {xs : List Value} {o : Obj} {its : List Tr} {X : Tr} (hn : its.length = n) (h0 : Below w0.heap.size w0 w) (hS : ∀ k, k < w0.heap.size → S k) (hI : ItemsRep w0 its xs) (hX : Seen w S X (five k1 x1 s1 (.slice an1 ln1 cn1) (.slice ai1 li1 ci1)))
    (h : AtApp w W B gi n k nm ns k1 x1 s1 (.slice an1 ln1 cn1) (.slice ai1 li1 ci1) xs)
    (hown : w8.ownsRow (w.heap.size + 1 + 1 + 1) 25 5 (.slice (some ⟨g8, 0, none⟩) (n + 1) c8) (n + 1) (xs ++ [.int .i64 k1, .int .i64 x1, .string s1, .slice an1 ln1 cn1, .slice ai1 li1 ci1])) (hgrow : (W.alloc o).grownBy w8 (Value.slice (some ⟨gi, 0, none⟩) n (n + 1)).ownBlock) (hat : (Value.slice (some ⟨gi, 0, none⟩) n (n + 1)).ownBlock = some g8 ∨ g8 = (W.alloc o).heap.size)
    (hW9 : w8.setCell ⟨B, 4, none⟩ (.slice (some ⟨g8, 0, none⟩) (n + 1) c8) = W9) :
    W9.heap[B]? = some (.cells #[.int .i64 k, .int .i64 0, .string ⟨#[]⟩, nm, .slice (some ⟨g8, 0, none⟩) (n + 1) c8] 25 (0, 0)) ∧ W9.heap[w.heap.size + 1 + 1]? = some (.cells #[.int .i64 0, .int .i64 0, .string ⟨#[]⟩, .slice none 0 0, .slice none 0 0] 25 (0, 0)) ∧
    (put5 W9 (w.heap.size + 1 + 1) (.int .i64 k) (.int .i64 0) (.string ⟨#[]⟩) nm (.slice (some ⟨g8, 0, none⟩) (n + 1) c8) = Wf → Below w.heap.size w Wf ∧ Seen Wf (fun k => S k ∨ w.heap.size ≤ k) (.node k 0 ⟨#[]⟩ ns (its ++ [X])) (five k 0 ⟨#[]⟩ nm (.slice (some ⟨g8, 0, none⟩) (n + 1) c8))) := by
  have hfar := grown_app (g := gi) rfl hgrow
  have hgi := ownsRow_ge h.row (g := gi) rfl
  have hlo := h.lo
  have hhi := h.hi
  have hsz := hgrow.size
  rw [World.size_alloc] at hsz hat
  have hg8 : g8 ≠ B ∧ w.heap.size + 1 + 1 + 1 ≤ g8 := by
    rcases hat with e | e
    · simp [Value.ownBlock] at e; subst e; exact ⟨h.gne, hgi.1⟩
    · omega
  have h9 : ∀ j, j ≠ B → W9.heap[j]? = w8.heap[j]? := fun j hj => by rw [← hW9]; exact Below.heap_setCell _ _ _ _ hj
  have s9 : W9.heap.size = w8.heap.size := by rw [← hW9]; simp [World.setCell]
  have hle := h.below.size
  refine ⟨by rw [← hW9]; exact set_at ((hfar B h.hi (fun e => h.gne e.symm)).trans h.box) _, (h9 _ (by omega)).trans ((hfar _ (by omega) (by omega)).trans h.r), fun hf => ?_⟩
  have B9 : Below w.heap.size w W9 := ⟨by rw [← hW9]; exact hgrow.os.trans h.below.os, by rw [← hW9]; exact hgrow.tape.trans h.below.tape, by rw [← hW9]; exact hgrow.output.trans h.below.output, by omega, fun j hj => (h9 j (by omega)).trans ((hfar j (by omega) (by omega)).trans (h.below.block j hj))⟩
  have Bf : Below w.heap.size w Wf := by rw [← hf]; exact B9.trans (put5_below (by omega) _ _ _ _ _)
  have kf : ∀ j, j ≠ w.heap.size + 1 + 1 → Wf.heap[j]? = W9.heap[j]? := fun j hj => by rw [← hf]; exact put5_far _ _ _ _ _ hj
  have sf : Wf.heap.size = W9.heap.size := by rw [← hf]; exact put5_size _ _ _ _ _ _ _
  refine ⟨Bf, ?_⟩
  have hl : (its ++ [X]).length = n + 1 := by simp [hn]
  have hfin := with_fin (k := k) (ns := ns) (its := its ++ [X]) (nm := nm) (gi := g8) (ci := c8) h0 hS Bf (by
    rw [hl]
    exact ownsRow_keep (ownsRow_lo hown (by omega)) (fun g hg => by cases hg; exact (kf g8 (show g8 ≠ w.heap.size + 1 + 1 by omega)).trans (h9 _ hg8.1))) (fun W' ha => h.names W' ⟨by have := ha.1; omega, fun p u hp hc => ha.2 p u (show w.heap.size ≤ p.block by have := hp.1; omega) ((World.cell?_of_block (w := W9) (kf p.block (by have := hp.1; omega))).trans ((World.cell?_of_block (w := w8) (h9 p.block hp.2.2)).trans ((World.cell?_of_block (w := W) (hfar p.block (cell_lt hc) hp.2.1)).trans hc)))⟩) (fun W' hk hs ha => by
      exact ItemsRep.snoc rfl (seen_next hX Bf (fun _ h => .inl h) ha) (hI.mono hk hs))
  rw [hl] at hfin
  exact hfin
end Go.Proofs.Ytmlbofbnklmedaa
