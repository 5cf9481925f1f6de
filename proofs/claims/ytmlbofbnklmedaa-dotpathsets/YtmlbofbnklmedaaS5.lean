import Derived.Test.YtmlbofbnklmedaaS4
/-! One turn up, of every value: a new item. -/
namespace Go.Proofs.Ytmlbofbnklmedaa
open Go Go.RowKit

theorem box_kept {w W w6 : World} {B gi gn n : Nat} {k : Int} {nm : Value} {ns : List ByteArray} {k1 x1 : Int} {s1 : ByteArray} {nx ix : Value} {xs : List Value} {o : Obj} (h : AtApp w W B gi n k nm ns k1 x1 s1 nx ix xs) (_ : w.heap.size + 1 + 1 + 1 ≤ gn ∧ gn < B) (_ : gn ≠ gi) (hnB : gn ≠ B) (hgrow : (W.alloc o).grownBy w6 (Value.slice (some ⟨gn, 0, none⟩) n (n + 1)).ownBlock) : ∃ u, w6.cell? ⟨B, 3, none⟩ = some u ∧ w6.frozen? ⟨B, 3, none⟩ = false := by
  have := (grown_app (g := gn) rfl hgrow B h.hi (fun e => hnB e.symm)).trans h.box
  exact ⟨nm, by simp [World.cell?, this], by simp [World.frozen?, this]⟩
theorem box_kept4 {w W w6 : World} {B gi n : Nat} {k : Int} {nm : Value} {ns : List ByteArray} {k1 x1 : Int} {s1 : ByteArray} {nx ix : Value} {xs : List Value} {o : Obj} (h : AtApp w W B gi n k nm ns k1 x1 s1 nx ix xs) (hgrow : (W.alloc o).grownBy w6 (Value.slice (some ⟨gi, 0, none⟩) n (n + 1)).ownBlock) : ∃ u, w6.cell? ⟨B, 4, none⟩ = some u ∧ w6.frozen? ⟨B, 4, none⟩ = false := by
  have := (grown_app (g := gi) rfl hgrow B h.hi (fun e => h.gne e.symm)).trans h.box
  exact ⟨_, by simp [World.cell?, this]; rfl, by simp [World.frozen?, this]⟩
set_option maxHeartbeats 1000000 in
set_option maxRecDepth 100000 in
theorem with_app5 (x : Int) (tx : ByteArray) (an : Option Addr) (ln cn : Nat) (ai : Option Addr) (li ci : Nat) (sg : ByteArray) (n : Nat) (hnb : (n + 1) * 80 ≤ 140737488355328) (k1 x1 : Int) (s1 : ByteArray) (an1 : Option Addr) (ln1 cn1 : Nat) (ai1 : Option Addr) (li1 ci1 : Nat) (ns : List ByteArray) (its : List Tr) (hn : its.length = n) (xs : List Value) (X : Tr) (S : Nat → Prop) (w0 w : World) (h0 : Below w0.heap.size w0 w) (hS : ∀ k, k < w0.heap.size → S k)
    (hI : ItemsRep w0 its xs) (hX : Seen w S X (five k1 x1 s1 (.slice an1 ln1 cn1) (.slice ai1 li1 ci1)))
    (hA : ∀ W, Below w.heap.size w W → Calls Try.prog 51 #[.agg #[.int .i64 5, .int .i64 x, .string tx, .slice an ln cn, .slice ai li ci]] W (Anew W 5 n (strs ns) xs)) :
    Calls Try.prog 48 #[.agg #[.int .i64 5, .int .i64 x, .string tx, .slice an ln cn, .slice ai li ci, .string sg, .int .i64 n], .agg #[.int .i64 k1, .int .i64 x1, .string s1, .slice an1 ln1 cn1, .slice ai1 li1 ci1]] w (WithPost w S (.node 5 0 ⟨#[]⟩ [] (its ++ [X]))) := by
  have hB3 : ∀ p1 p2 p3, Below w.heap.size w (((w.alloc p1).alloc p2).alloc p3) := fun p1 p2 p3 => ((Below.refl _ w).alloc (Nat.le_refl _) p1).alloc (by simp) p2 |>.alloc (by simp; omega) p3
  have hn0 : ∀ o1 o2 o3, (((w.alloc o1).alloc o2).alloc o3).heap[w.heap.size]? = some o1 := fun o1 o2 o3 => (Below.heap_alloc _ _ _ (by simp; omega)).trans (new1 w o1 o2)
  have hn1 : ∀ o1 o2 o3, (((w.alloc o1).alloc o2).alloc o3).heap[w.heap.size + 1]? = some o2 := fun o1 o2 o3 => (Below.heap_alloc _ _ _ (by simp)).trans (new2 w o1 o2)
  have hn2 : ∀ o1 o2 o3, (((w.alloc o1).alloc o2).alloc o3).heap[w.heap.size + 1 + 1]? = some o3 := fun o1 o2 o3 => heap_new' (by simp)
  have hA' := fun p1 p2 p3 => hA _ (hB3 p1 p2 p3)
  clear hA
  go_enter Try.func48, Try.ntmps48
  go_wp2_with fail
  refine (hA' _ _ _).mono ?_
  rintro e w4 ⟨hb4, nm, gi, rfl, hrow, hnm⟩
  clear hA'
  have t0 := (hb4.block _ (by simp; omega)).trans (hn0 _ _ _)
  have t1 := (hb4.block _ (by simp)).trans (hn1 _ _ _)
  have t2 := (hb4.block _ (by simp)).trans (hn2 _ _ _)
  have HB : Below w.heap.size w w4 := (hB3 _ _ _).trans (hb4.mono (by simp; omega))
  have hsz : w.heap.size + 3 ≤ w4.heap.size := by have := hb4.size; simp at this; omega
  simp only [World.size_alloc] at hrow hnm
  clear hb4 hB3 hn0 hn1 hn2
  have hgi := ownsRow_ge hrow (g := gi) rfl
  obtain rfl : nm = .slice none 0 0 := by
    rcases hnm with h | ⟨h, _⟩
    · first | exact h | exact h.2
    · exact absurd h (by decide)
  clear hnm
  obtain ⟨W5, hW5⟩ : ∃ W5, Hid (w4.alloc (.cells #[.int .i64 5, .int .i64 0, .string ⟨#[]⟩, .slice none 0 0, .slice (some ⟨gi, 0, none⟩) n (n + 1)] 25) = W5) := ⟨_, rfl⟩
  have hb5 : Below w4.heap.size w4 W5 := by rw [← hW5.out]; exact (Below.refl _ w4).alloc (Nat.le_refl _) _
  have hs5 : W5.heap.size = w4.heap.size + 1 := by rw [← hW5.out]; simp
  have t5 : W5.heap[w4.heap.size]? = some (.cells #[.int .i64 5, .int .i64 0, .string ⟨#[]⟩, .slice none 0 0, .slice (some ⟨gi, 0, none⟩) n (n + 1)] 25) := by rw [← hW5.out]; exact heap_alloc_new w4 _
  replace t0 := (hb5.block _ (by omega)).trans t0
  have i6 : W5.cell? ⟨w.heap.size, 6, none⟩ = some (.int .i64 n) := by simp [World.cell?, t0]
  have i5 : W5.cell? ⟨w.heap.size, 5, none⟩ = some (.string sg) := by simp [World.cell?, t0]
  have hA5 : AtApp w W5 w4.heap.size gi n 5 (.slice none 0 0) [] k1 x1 s1 (.slice an1 ln1 cn1) (.slice ai1 li1 ci1) xs := ⟨hsz, by omega, by omega, HB.trans (hb5.mono HB.size), (hb5.block _ (by omega)).trans t1, (hb5.block _ (by omega)).trans t2, t5, ownsRow_below hrow hb5, fun W' _ => ⟨none, 0, rfl, ⟨Nat.le_refl _, by omega⟩, .inl rfl⟩⟩
  obtain ⟨y0, y1, y2, y3, y4, -⟩ := row_cells hA5.x
  obtain ⟨v0, v1, v2, v3, v4, vf⟩ := row_cells hA5.box
  have vf3 := vf 3; have vf4 := vf 4
  have hd : decide ((n : Int) < (n : Int)) = false := by simp
  obtain ⟨i25, hi25, hz0, hz1, hz2⟩ := info_parts A25
  obtain ⟨i9, hi9, hy0, hy1, hy2⟩ := info_parts A9
  clear hb5 HB t0 t1 t2 t5 vf hrow
  replace hsz := hid_of hsz; replace hs5 := hid_of hs5; replace hgi := hid_of hgi; replace hA5 := hid_of hA5
  replace hX := hid_of hX; replace hI := hid_of hI; replace h0 := hid_of h0; replace hS := hid_of hS
  go_wp2_with (first | rw [hW5.out] | rw [hW9.out] | (at_builtin; refine wpList_append_lies _ rfl _ _ 23 rfl (w.heap.size + 1 + 1 + 1) 25 i25 _ 5 80 Try.underlying23 hi25 hz0 hz1 hz2 rfl (by decide) _ n xs rfl (hA5.out.row.alloc _) _ 1 1 [.int .i64 k1, .int .i64 x1, .string s1, .slice an1 ln1 cn1, .slice ai1 li1 ci1] rfl rfl (World.news_of_block (heap_alloc_new W5 _)) (five_one _ _ _ _ _ _ _ _ _) (by decide) (by unfold maxLen; omega) (by omega) (by simp only [World.size_alloc]; have h1 := hA5.out.lo; have h2 := hA5.out.hi; omega) _ rfl ?_; intro g8 c8 w8 hown8 hgrow8 hat8 hlt8; obtain ⟨W9, hW9⟩ : ∃ W9, Hid (w8.setCell ⟨w4.heap.size, 4, none⟩ (.slice (some ⟨g8, 0, none⟩) (n + 1) c8) = W9) := ⟨_, rfl⟩; obtain ⟨u4, u4a, u4b⟩ := box_kept4 hA5.out hgrow8; obtain ⟨t59, t29, hfin⟩ := app_items (Wf := put5 W9 (w.heap.size + 1 + 1) (.int .i64 5) (.int .i64 0) (.string ⟨#[]⟩) (.slice none 0 0) (.slice (some ⟨g8, 0, none⟩) (n + 1) c8)) hn h0.out hS.out hI.out hX.out hA5.out hown8 hgrow8 hat8 hW9.out; replace hfin := hid_of (hfin rfl); clear hown8 hgrow8 hat8 hlt8 hA5 v0 v1 v2 v3 v4 y0 y1 y2 y3 y4 vf4; obtain ⟨v0, v1, v2, v3, v4, -⟩ := row_cells t59; obtain ⟨z0, z1, z2, z3, z4, zf⟩ := row_cells t29; have g0 := zf 0; have g1 := zf 1; have g2 := zf 2; have g3 := zf 3; have g4 := zf 4; clear zf; replace t29 := hid_of t29; clear t59))
  have hr := put5_cells t29.out (.int .i64 5) (.int .i64 0) (.string ⟨#[]⟩) (.slice none 0 0) (.slice (some ⟨g8, 0, none⟩) (n + 1) c8)
  have q0 := hr 0; have q1 := hr 1; have q2 := hr 2; have q3 := hr 3; have q4 := hr 4
  clear hr
  refine bodyPost_ret (v := .agg #[.int .i64 5, .int .i64 0, .string ⟨#[]⟩, .slice none 0 0, .slice (some ⟨g8, 0, none⟩) (n + 1) c8]) (by simp [results, Try.results48, go_sem, q0, q1, q2, q3, q4]) rfl ?_
  exact ⟨hfin.out.1, _, _, _, _, _, _, _, _, _, _, rfl, rfl, hfin.out.2⟩
set_option maxHeartbeats 1000000 in
set_option maxRecDepth 100000 in
theorem with_app6 (x : Int) (tx : ByteArray) (an : Option Addr) (ln cn : Nat) (ai : Option Addr) (li ci : Nat) (sg : ByteArray) (n : Nat) (hnb : (n + 1) * 80 ≤ 140737488355328) (k1 x1 : Int) (s1 : ByteArray) (an1 : Option Addr) (ln1 cn1 : Nat) (ai1 : Option Addr) (li1 ci1 : Nat) (ns : List ByteArray) (its : List Tr) (hn : its.length = n) (xs : List Value) (X : Tr) (S : Nat → Prop) (w0 w : World) (h0 : Below w0.heap.size w0 w) (hS : ∀ k, k < w0.heap.size → S k)
    (hI : ItemsRep w0 its xs) (hX : Seen w S X (five k1 x1 s1 (.slice an1 ln1 cn1) (.slice ai1 li1 ci1)))
    (hA : ∀ W, Below w.heap.size w W → Calls Try.prog 51 #[.agg #[.int .i64 6, .int .i64 x, .string tx, .slice an ln cn, .slice ai li ci]] W (Anew W 6 n (strs ns) xs)) (hk6 : ns.length = n) :
    Calls Try.prog 48 #[.agg #[.int .i64 6, .int .i64 x, .string tx, .slice an ln cn, .slice ai li ci, .string sg, .int .i64 n], .agg #[.int .i64 k1, .int .i64 x1, .string s1, .slice an1 ln1 cn1, .slice ai1 li1 ci1]] w (WithPost w S (.node 6 0 ⟨#[]⟩ (ns ++ [sg]) (its ++ [X]))) := by
  have hB3 : ∀ p1 p2 p3, Below w.heap.size w (((w.alloc p1).alloc p2).alloc p3) := fun p1 p2 p3 => ((Below.refl _ w).alloc (Nat.le_refl _) p1).alloc (by simp) p2 |>.alloc (by simp; omega) p3
  have hn0 : ∀ o1 o2 o3, (((w.alloc o1).alloc o2).alloc o3).heap[w.heap.size]? = some o1 := fun o1 o2 o3 => (Below.heap_alloc _ _ _ (by simp; omega)).trans (new1 w o1 o2)
  have hn1 : ∀ o1 o2 o3, (((w.alloc o1).alloc o2).alloc o3).heap[w.heap.size + 1]? = some o2 := fun o1 o2 o3 => (Below.heap_alloc _ _ _ (by simp)).trans (new2 w o1 o2)
  have hn2 : ∀ o1 o2 o3, (((w.alloc o1).alloc o2).alloc o3).heap[w.heap.size + 1 + 1]? = some o3 := fun o1 o2 o3 => heap_new' (by simp)
  have hA' := fun p1 p2 p3 => hA _ (hB3 p1 p2 p3)
  clear hA
  go_enter Try.func48, Try.ntmps48
  go_wp2_with fail
  refine (hA' _ _ _).mono ?_
  rintro e w4 ⟨hb4, nm, gi, rfl, hrow, hnm⟩
  clear hA'
  have t0 := (hb4.block _ (by simp; omega)).trans (hn0 _ _ _)
  have t1 := (hb4.block _ (by simp)).trans (hn1 _ _ _)
  have t2 := (hb4.block _ (by simp)).trans (hn2 _ _ _)
  have HB : Below w.heap.size w w4 := (hB3 _ _ _).trans (hb4.mono (by simp; omega))
  have hsz : w.heap.size + 3 ≤ w4.heap.size := by have := hb4.size; simp at this; omega
  simp only [World.size_alloc] at hrow hnm
  clear hb4 hB3 hn0 hn1 hn2
  have hgi := ownsRow_ge hrow (g := gi) rfl
  obtain ⟨gn, hne, rfl, hnr⟩ : ∃ gn, gn ≠ gi ∧ nm = .slice (some ⟨gn, 0, none⟩) n (n + 1) ∧ w4.ownsRow (w.heap.size + 1 + 1 + 1) 9 1 (.slice (some ⟨gn, 0, none⟩) n (n + 1)) n (strs ns) := by
    rcases hnm with ⟨h, _⟩ | h
    · exact absurd h (by decide)
    · first | exact h | exact h.2
  clear hnm
  have hgn := ownsRow_ge hnr (g := gn) rfl
  obtain ⟨W5, hW5⟩ : ∃ W5, Hid (w4.alloc (.cells #[.int .i64 6, .int .i64 0, .string ⟨#[]⟩, .slice (some ⟨gn, 0, none⟩) n (n + 1), .slice (some ⟨gi, 0, none⟩) n (n + 1)] 25) = W5) := ⟨_, rfl⟩
  have hb5 : Below w4.heap.size w4 W5 := by rw [← hW5.out]; exact (Below.refl _ w4).alloc (Nat.le_refl _) _
  have hs5 : W5.heap.size = w4.heap.size + 1 := by rw [← hW5.out]; simp
  have t5 : W5.heap[w4.heap.size]? = some (.cells #[.int .i64 6, .int .i64 0, .string ⟨#[]⟩, .slice (some ⟨gn, 0, none⟩) n (n + 1), .slice (some ⟨gi, 0, none⟩) n (n + 1)] 25) := by rw [← hW5.out]; exact heap_alloc_new w4 _
  replace t0 := (hb5.block _ (by omega)).trans t0
  have i6 : W5.cell? ⟨w.heap.size, 6, none⟩ = some (.int .i64 n) := by simp [World.cell?, t0]
  have i5 : W5.cell? ⟨w.heap.size, 5, none⟩ = some (.string sg) := by simp [World.cell?, t0]
  replace hnr := ownsRow_below hnr hb5
  have hA5 : AtApp w W5 w4.heap.size gi n 6 (.slice (some ⟨gn, 0, none⟩) n (n + 1)) ns k1 x1 s1 (.slice an1 ln1 cn1) (.slice ai1 li1 ci1) xs := ⟨hsz, by omega, by omega, HB.trans (hb5.mono HB.size), (hb5.block _ (by omega)).trans t1, (hb5.block _ (by omega)).trans t2, t5, ownsRow_below hrow hb5, fun W' ha => by
    subst hk6
    exact own_reads hnr (show _ ∧ _ ∧ _ from ⟨hgn.1, hne, by omega⟩) ha⟩
  obtain ⟨y0, y1, y2, y3, y4, -⟩ := row_cells hA5.x
  obtain ⟨v0, v1, v2, v3, v4, vf⟩ := row_cells hA5.box
  have vf3 := vf 3; have vf4 := vf 4
  have hd : decide ((n : Int) < (n : Int)) = false := by simp
  obtain ⟨i25, hi25, hz0, hz1, hz2⟩ := info_parts A25
  obtain ⟨i9, hi9, hy0, hy1, hy2⟩ := info_parts A9
  clear hb5 HB t0 t1 t2 t5 vf hrow
  replace hsz := hid_of hsz; replace hs5 := hid_of hs5; replace hgi := hid_of hgi; replace hA5 := hid_of hA5
  replace hX := hid_of hX; replace hI := hid_of hI; replace h0 := hid_of h0; replace hS := hid_of hS
  replace hgn := hid_of hgn; replace hnr := hid_of hnr; replace hne := hid_of hne
  go_wp2_with (first | rw [hW5.out] | rw [hW7.out] | rw [hW9.out] | (at_builtin; refine wpList_append_lies _ rfl _ _ 22 rfl (w.heap.size + 1 + 1 + 1) 9 i9 _ 1 16 Try.underlying22 hi9 hy0 hy1 hy2 rfl (by decide) _ n (strs ns) rfl (hnr.out.alloc _) _ 1 1 [.string sg] rfl rfl (World.news_of_block (heap_alloc_new W5 _)) (one_string sg) (by decide) (by unfold maxLen; omega) (by omega) (by simp only [World.size_alloc]; have := hsz.out; have := hs5.out; omega) _ rfl ?_; intro g6 c6 w6 hown6 hgrow6 hat6 hlt6; obtain ⟨W7, hW7⟩ : ∃ W7, Hid (w6.setCell ⟨w4.heap.size, 3, none⟩ (.slice (some ⟨g6, 0, none⟩) (n + 1) c6) = W7) := ⟨_, rfl⟩; have u3 : ∃ u, w6.cell? ⟨w4.heap.size, 3, none⟩ = some u ∧ w6.frozen? ⟨w4.heap.size, 3, none⟩ = false := box_kept hA5.out hgn.out hne.out (by have := hgn.out; have := hs5.out; omega) hgrow6; obtain ⟨u3, u3a, u3b⟩ := u3; have hA7 := hid_of (app_names hk6 hA5.out (by have := hgn.out; have := hs5.out; omega) hne.out (by have := hgn.out; have := hs5.out; omega) hown6 hgrow6 hat6 hW7.out); clear hnr hown6 hgrow6 hat6 hlt6 hne hA5 v0 v1 v2 v3 v4 y0 y1 y2 y3 y4 i5 i6 vf3 vf4; obtain ⟨y0, y1, y2, y3, y4, -⟩ := row_cells hA7.out.x; obtain ⟨v0, v1, v2, v3, v4, vf⟩ := row_cells hA7.out.box; have vf4 := vf 4; clear vf) | (at_builtin; refine wpList_append_lies _ rfl _ _ 23 rfl (w.heap.size + 1 + 1 + 1) 25 i25 _ 5 80 Try.underlying23 hi25 hz0 hz1 hz2 rfl (by decide) _ n xs rfl (hA7.out.row.alloc _) _ 1 1 [.int .i64 k1, .int .i64 x1, .string s1, .slice an1 ln1 cn1, .slice ai1 li1 ci1] rfl rfl (World.news_of_block (heap_alloc_new W7 _)) (five_one _ _ _ _ _ _ _ _ _) (by decide) (by unfold maxLen; omega) (by omega) (by simp only [World.size_alloc]; have h1 := hA7.out.lo; have h2 := hA7.out.hi; omega) _ rfl ?_; intro g8 c8 w8 hown8 hgrow8 hat8 hlt8; obtain ⟨W9, hW9⟩ : ∃ W9, Hid (w8.setCell ⟨w4.heap.size, 4, none⟩ (.slice (some ⟨g8, 0, none⟩) (n + 1) c8) = W9) := ⟨_, rfl⟩; obtain ⟨u4, u4a, u4b⟩ := box_kept4 hA7.out hgrow8; obtain ⟨t59, t29, hfin⟩ := app_items (Wf := put5 W9 (w.heap.size + 1 + 1) (.int .i64 6) (.int .i64 0) (.string ⟨#[]⟩) (.slice (some ⟨g6, 0, none⟩) (n + 1) c6) (.slice (some ⟨g8, 0, none⟩) (n + 1) c8)) hn h0.out hS.out hI.out hX.out hA7.out hown8 hgrow8 hat8 hW9.out; replace hfin := hid_of (hfin rfl); clear hown8 hgrow8 hat8 hlt8 hA7 v0 v1 v2 v3 v4 y0 y1 y2 y3 y4 vf4; obtain ⟨v0, v1, v2, v3, v4, -⟩ := row_cells t59; obtain ⟨z0, z1, z2, z3, z4, zf⟩ := row_cells t29; have g0 := zf 0; have g1 := zf 1; have g2 := zf 2; have g3 := zf 3; have g4 := zf 4; clear zf; replace t29 := hid_of t29; clear t59))
  have hr := put5_cells t29.out (.int .i64 6) (.int .i64 0) (.string ⟨#[]⟩) (.slice (some ⟨g6, 0, none⟩) (n + 1) c6) (.slice (some ⟨g8, 0, none⟩) (n + 1) c8)
  have q0 := hr 0; have q1 := hr 1; have q2 := hr 2; have q3 := hr 3; have q4 := hr 4
  clear hr
  refine bodyPost_ret (v := .agg #[.int .i64 6, .int .i64 0, .string ⟨#[]⟩, .slice (some ⟨g6, 0, none⟩) (n + 1) c6, .slice (some ⟨g8, 0, none⟩) (n + 1) c8]) (by simp [results, Try.results48, go_sem, q0, q1, q2, q3, q4]) rfl ?_
  exact ⟨hfin.out.1, _, _, _, _, _, _, _, _, _, _, rfl, rfl, hfin.out.2⟩
end Go.Proofs.Ytmlbofbnklmedaa
