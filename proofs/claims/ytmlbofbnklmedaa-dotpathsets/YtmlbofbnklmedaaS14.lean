import Derived.Test.YtmlbofbnklmedaaS13
/-! A turn without its item, of every value. -/
namespace Go.Proofs.Ytmlbofbnklmedaa
open Go Go.RowKit

def nilT : Tr := .node 0 0 ⟨#[]⟩ [] []
def withoutT (k : Int) (ns : List ByteArray) (its : List Tr) (m : Nat) : Tr :=
  if k = 5 then .node 5 0 ⟨#[]⟩ [] (its.set m nilT) else .node k 0 ⟨#[]⟩ ((keepNs k ns its).eraseIdx m) ((keepIts k ns its).eraseIdx m)
theorem ItemsRep.drop {W : World} : {ts : List Tr} → {xs : List Value} → (n : Nat) → ItemsRep W ts xs → ItemsRep W (ts.drop n) (xs.drop (n * 5))
  | ts, xs, 0, h => by simpa using h
  | [], xs, n + 1, h => by unfold ItemsRep at h; subst h; simp [ItemsRep]
  | t :: ts, xs, n + 1, h => by
    unfold ItemsRep at h
    obtain ⟨cs, r, rfl, h1, h2, h3⟩ := h
    have := ItemsRep.drop n h3
    rw [List.drop_succ_cons, show (n + 1) * 5 = cs.length + n * 5 by omega, List.drop_length_add_append]
    exact this
theorem ItemsRep.erase {W : World} {ts : List Tr} {xs : List Value} (m : Nat) (h : ItemsRep W ts xs) : ItemsRep W (ts.eraseIdx m) (xs.take (m * 5) ++ xs.drop ((m + 1) * 5)) := by
  rw [List.eraseIdx_eq_take_drop_succ]
  exact ItemsRep.app (h.take m) (h.drop (m + 1))
theorem strs_erase (ns : List ByteArray) (m : Nat) : (strs ns).take (m * 1) ++ (strs ns).drop ((m + 1) * 1) = strs (ns.eraseIdx m) := by
  rw [List.eraseIdx_eq_take_drop_succ]
  unfold strs
  simp [List.map_take, List.map_drop]
set_option maxHeartbeats 600000 in
set_option maxRecDepth 100000 in
theorem without5 (x : Int) (tx : ByteArray) (an : Option Addr) (ln cn : Nat) (ai : Option Addr) (li ci : Nat) (sg : ByteArray) (m n : Nat) (hm : m < n) (its : List Tr) (hn : its.length = n) (xs : List Value) (S : Nat → Prop) (w0 w : World) (h0 : Below w0.heap.size w0 w) (hS : ∀ k, k < w0.heap.size → S k)
    (hI : ItemsRep w0 its xs) (hA : ∀ W, Below w.heap.size w W → Calls Try.prog 51 #[.agg #[.int .i64 5, .int .i64 x, .string tx, .slice an ln cn, .slice ai li ci]] W (Anew W 5 n (strs []) xs)) :
    Calls Try.prog 33 #[.agg #[.int .i64 5, .int .i64 x, .string tx, .slice an ln cn, .slice ai li ci, .string sg, .int .i64 m]] w (WithPost w S (.node 5 0 ⟨#[]⟩ [] (its.set m nilT))) := by
  have hB2 : ∀ p1 p2, Below w.heap.size w ((w.alloc p1).alloc p2) := fun p1 p2 => ((Below.refl _ w).alloc (Nat.le_refl _) p1).alloc (by simp) p2
  have hn0 := fun o1 o2 => new1 w o1 o2
  have hn1 := fun o1 o2 => new2 w o1 o2
  have hA' := fun p1 p2 => hA _ (hB2 p1 p2)
  clear hA
  go_enter Try.func33, Try.ntmps33
  go_wp2_with fail
  refine (hA' _ _).mono ?_
  rintro e w4 ⟨hb4, nm, gi, rfl, hrow, hnm⟩
  clear hA'
  have t0 := (hb4.block _ (by simp; omega)).trans (hn0 _ _)
  have t2 := (hb4.block _ (by simp)).trans (hn1 _ _)
  have HB : Below w.heap.size w w4 := (hB2 _ _).trans (hb4.mono (by simp; omega))
  have hsz : w.heap.size + 2 ≤ w4.heap.size := by have := hb4.size; simp at this; omega
  simp only [World.size_alloc] at hrow hnm
  clear hb4 hB2 hn0 hn1
  have hgi := ownsRow_ge hrow (g := gi) rfl
  obtain rfl : nm = .slice none 0 0 := by
    rcases hnm with ⟨_, h⟩ | ⟨h, _⟩
    · exact h
    · omega
  clear hnm
  obtain ⟨W5, hW5⟩ : ∃ W5, Hid (w4.alloc (.cells #[.int .i64 5, .int .i64 0, .string ⟨#[]⟩, .slice none 0 0, .slice (some ⟨gi, 0, none⟩) n (n + 1)] 25) = W5) := ⟨_, rfl⟩
  have hb5 : Below w4.heap.size w4 W5 := by rw [← hW5.out]; exact (Below.refl _ w4).alloc (Nat.le_refl _) _
  have hs5 : W5.heap.size = w4.heap.size + 1 := by rw [← hW5.out]; simp
  have t5 : W5.heap[w4.heap.size]? = some (.cells #[.int .i64 5, .int .i64 0, .string ⟨#[]⟩, .slice none 0 0, .slice (some ⟨gi, 0, none⟩) n (n + 1)] 25) := by rw [← hW5.out]; exact heap_alloc_new w4 _
  replace t0 := (hb5.block _ (by omega)).trans t0
  replace t2 := (hb5.block _ (by omega)).trans t2
  replace hrow := ownsRow_below hrow hb5
  have i6 : W5.cell? ⟨w.heap.size, 6, none⟩ = some (.int .i64 m) := by simp [World.cell?, t0]
  obtain ⟨v0', -, -, -, v4', -⟩ := row_cells t5
  obtain ⟨u0, c0⟩ := row_at5 hrow (m * 5) (by omega)
  have f0 := hrow.frozenAt (m * 5)
  obtain ⟨u1, c1⟩ := row_at5 hrow (m * 5 + 1) (by omega)
  have f1 := hrow.frozenAt (m * 5 + 1)
  obtain ⟨u2, c2⟩ := row_at5 hrow (m * 5 + 2) (by omega)
  have f2 := hrow.frozenAt (m * 5 + 2)
  obtain ⟨u3, c3⟩ := row_at5 hrow (m * 5 + 3) (by omega)
  have f3 := hrow.frozenAt (m * 5 + 3)
  obtain ⟨u4, c4⟩ := row_at5 hrow (m * 5 + 4) (by omega)
  have f4 := hrow.frozenAt (m * 5 + 4)
  obtain ⟨W6, hW6⟩ : ∃ W6, Hid ((((((W5.setCell ⟨gi, m * 5, none⟩ (.int .i64 0)).setCell ⟨gi, m * 5 + 1, none⟩ (.int .i64 0)).setCell ⟨gi, m * 5 + 2, none⟩ (.string ⟨#[]⟩)).setCell ⟨gi, m * 5 + 3, none⟩ (.slice none 0 0)).setCell ⟨gi, m * 5 + 4, none⟩ (.slice none 0 0)) = W6) := ⟨_, rfl⟩
  have r6 := (((((hrow.stored (m * 5) (.int .i64 0)).1.stored (m * 5 + 1) (.int .i64 0)).1.stored (m * 5 + 2) (.string ⟨#[]⟩)).1.stored (m * 5 + 3) (.slice none 0 0)).1.stored (m * 5 + 4) (.slice none 0 0)).1
  rw [hW6.out] at r6
  have k6 : ∀ j, j ≠ gi → W6.heap[j]? = W5.heap[j]? := fun j hj => by rw [← hW6.out]; exact (Below.heap_setCell _ _ _ _ hj).trans ((Below.heap_setCell _ _ _ _ hj).trans ((Below.heap_setCell _ _ _ _ hj).trans ((Below.heap_setCell _ _ _ _ hj).trans (Below.heap_setCell _ _ _ _ hj))))
  have s6 : W6.heap.size = W5.heap.size := by rw [← hW6.out]; simp [World.setCell]
  have B5 : Below w.heap.size w W5 := HB.trans (hb5.mono HB.size)
  have B6 : Below w.heap.size w W6 := ⟨by rw [← hW6.out]; exact B5.os, by rw [← hW6.out]; exact B5.tape, by rw [← hW6.out]; exact B5.output, by rw [s6]; exact B5.size, fun j hj => (k6 j (by omega)).trans (B5.block j hj)⟩
  have t56 := (k6 _ (by omega)).trans t5
  have t26 := (k6 _ (by omega)).trans t2
  obtain ⟨v0, v1, v2, v3, v4, -⟩ := row_cells t56
  obtain ⟨z0, z1, z2, z3, z4, zf⟩ := row_cells t26
  have g0 := zf 0; have g1 := zf 1; have g2 := zf 2; have g3 := zf 3; have g4 := zf 4
  clear zf
  have i1 : (m : Int) < (n : Int) := by omega
  have i2 : (0 : Int) ≤ (m : Int) := by omega
  replace r6 := hid_of r6; replace t26 := hid_of t26; replace B6 := hid_of B6; replace s6 := hid_of s6; replace hs5 := hid_of hs5; replace hsz := hid_of hsz
  replace hI := hid_of hI; replace h0 := hid_of h0; replace HB := hid_of HB; replace hS := hid_of hS; replace hgi := hid_of hgi
  clear k6 B5 hb5 t5 t2 t0 hrow t56
  go_wp2_with (first | rw [hW5.out] | rw [hW6.out])
  have hr := put5_cells t26.out (.int .i64 5) (.int .i64 0) (.string ⟨#[]⟩) (.slice none 0 0) (.slice (some ⟨gi, 0, none⟩) n (n + 1))
  have q0 := hr 0; have q1 := hr 1; have q2 := hr 2; have q3 := hr 3; have q4 := hr 4
  clear hr
  refine bodyPost_ret (v := .agg #[.int .i64 5, .int .i64 0, .string ⟨#[]⟩, .slice none 0 0, .slice (some ⟨gi, 0, none⟩) n (n + 1)]) (by simp [results, Try.results33, go_sem, q0, q1, q2, q3, q4]) rfl ?_
  clear q0 q1 q2 q3 q4 z0 z1 z2 z3 z4 g0 g1 g2 g3 g4 v0 v1 v2 v3 v4
  have hgi1 := hgi.out; have hsz1 := hsz.out; have hs51 := hs5.out; have s61 := s6.out
  have hBf : Below w.heap.size w (put5 W6 (w.heap.size + 1) (.int .i64 5) (.int .i64 0) (.string ⟨#[]⟩) (.slice none 0 0) (.slice (some ⟨gi, 0, none⟩) n (n + 1))) := B6.out.trans (put5_below (by omega) _ _ _ _ _)
  refine ⟨hBf, five 5 0 ⟨#[]⟩ (.slice none 0 0) (.slice (some ⟨gi, 0, none⟩) n (n + 1)), _, _, _, _, _, _, _, _, _, rfl, rfl, ?_⟩
  have hlen : (its.set m nilT).length = n := by rw [List.length_set]; exact hn
  have hfin := with_fin (k := 5) (ns := []) (its := its.set m nilT) (nm := .slice none 0 0) (gi := gi) (ci := n + 1) h0.out hS.out hBf (by
    rw [hlen]
    exact ownsRow_keep (ownsRow_lo r6.out (by omega)) (fun g hg => by cases hg; exact put5_far _ _ _ _ _ (show gi ≠ w.heap.size + 1 by omega))) (fun W' _ => ⟨none, 0, rfl, ⟨Nat.le_refl _, by omega⟩, .inl rfl⟩) (fun W' hk hs ha => by
      refine ItemsRep.set (k := 0) (x := 0) (s := ⟨#[]⟩) (nm := .slice none 0 0) (it := .slice none 0 0) (zero_rep W') m (by omega) (hI.out.mono hk hs))
  rw [hlen] at hfin
  exact hfin
end Go.Proofs.Ytmlbofbnklmedaa
