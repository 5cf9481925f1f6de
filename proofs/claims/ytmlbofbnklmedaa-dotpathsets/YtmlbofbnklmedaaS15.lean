import Derived.Test.YtmlbofbnklmedaaS14
/-! A turn of an object without its item. -/
namespace Go.Proofs.Ytmlbofbnklmedaa
open Go Go.RowKit

theorem erase_len {α : Type} {l : List α} {n m : Nat} (h : l.length = n) (hm : m < n) : (l.eraseIdx m).length = n - 1 := by rw [List.length_eraseIdx, if_pos (by omega), h]
theorem seenR_own {W : World} {lo g cap : Nat} {l : List ByteArray} (h : W.ownsRow lo 9 1 (.slice (some ⟨g, 0, none⟩) l.length cap) l.length (strs l)) : SeenR W (fun k => lo ≤ k) (.slice (some ⟨g, 0, none⟩) l.length cap) l := fun W' ha => by
  obtain ⟨hc, hlt, hge, _⟩ := owns_cells h
  refine ⟨_, cap, rfl, row_cap h, .inr ⟨g, 0, rfl, Nat.lt_of_lt_of_le hlt ha.1, fun j s hj => ?_⟩⟩
  exact ha.2 _ _ hge (hc j _ (by unfold strs; rw [List.getElem?_map, hj]; rfl))
set_option maxHeartbeats 800000 in
set_option maxRecDepth 100000 in
theorem without6 (x : Int) (tx : ByteArray) (an : Option Addr) (ln cn : Nat) (ai : Option Addr) (li ci : Nat) (sg : ByteArray) (m n : Nat) (hm : m < n) (ns : List ByteArray) (hns : ns.length = n) (its : List Tr) (hn : its.length = n) (xs : List Value) (S : Nat → Prop) (w0 w : World) (h0 : Below w0.heap.size w0 w) (hS : ∀ k, k < w0.heap.size → S k)
    (hI : ItemsRep w0 its xs) (hA : ∀ W, Below w.heap.size w W → Calls Try.prog 51 #[.agg #[.int .i64 6, .int .i64 x, .string tx, .slice an ln cn, .slice ai li ci]] W (Anew W 6 n (strs ns) xs)) :
    Calls Try.prog 33 #[.agg #[.int .i64 6, .int .i64 x, .string tx, .slice an ln cn, .slice ai li ci, .string sg, .int .i64 m]] w (WithPost w S (.node 6 0 ⟨#[]⟩ (ns.eraseIdx m) (its.eraseIdx m))) := by
  have hB2 : ∀ p1 p2, Below w.heap.size w ((w.alloc p1).alloc p2) := fun p1 p2 => ((Below.refl _ w).alloc (Nat.le_refl _) p1).alloc (by simp) p2
  have hn0 := fun o1 o2 => new1 w o1 o2
  have hn1 := fun o1 o2 => new2 w o1 o2
  have hA' := fun p1 p2 => hA _ (hB2 p1 p2)
  clear hA
  go_enter Try.func33, Try.ntmps33
  go_wp2_with fail
  refine (hA' _ _).mono ?_
  rintro e w4 ⟨hb4, nm, gi, rfl, hrow, hnm⟩
  clear hA'
  have t0 := (hb4.block _ (by simp; omega)).trans (hn0 _ _)
  have t2 := (hb4.block _ (by simp)).trans (hn1 _ _)
  have HB : Below w.heap.size w w4 := (hB2 _ _).trans (hb4.mono (by simp; omega))
  have hsz : w.heap.size + 2 ≤ w4.heap.size := by have := hb4.size; simp at this; omega
  simp only [World.size_alloc] at hrow hnm
  clear hb4 hB2 hn0 hn1
  have hgi := ownsRow_ge hrow (g := gi) rfl
  obtain ⟨gn, hne, rfl, hnr⟩ : ∃ gn, gn ≠ gi ∧ nm = .slice (some ⟨gn, 0, none⟩) n (n + 1) ∧ w4.ownsRow (w.heap.size + 1 + 1) 9 1 (.slice (some ⟨gn, 0, none⟩) n (n + 1)) n (strs ns) := by
    rcases hnm with ⟨h, _⟩ | ⟨_, h⟩
    · omega
    · exact h
  clear hnm
  have hgn := ownsRow_ge hnr (g := gn) rfl
  have hcap := (row_cap hrow).2
  obtain ⟨W5, hW5⟩ : ∃ W5, Hid (w4.alloc (.cells #[.int .i64 6, .int .i64 0, .string ⟨#[]⟩, .slice (some ⟨gn, 0, none⟩) n (n + 1), .slice (some ⟨gi, 0, none⟩) n (n + 1)] 25) = W5) := ⟨_, rfl⟩
  have hb5 : Below w4.heap.size w4 W5 := by rw [← hW5.out]; exact (Below.refl _ w4).alloc (Nat.le_refl _) _
  have hs5 : W5.heap.size = w4.heap.size + 1 := by rw [← hW5.out]; simp
  have t5 : W5.heap[w4.heap.size]? = some (.cells #[.int .i64 6, .int .i64 0, .string ⟨#[]⟩, .slice (some ⟨gn, 0, none⟩) n (n + 1), .slice (some ⟨gi, 0, none⟩) n (n + 1)] 25) := by rw [← hW5.out]; exact heap_alloc_new w4 _
  replace t0 := (hb5.block _ (by omega)).trans t0
  replace t2 := (hb5.block _ (by omega)).trans t2
  replace hrow := ownsRow_below hrow hb5
  replace hnr := ownsRow_below hnr hb5
  have B5 : Below w.heap.size w W5 := HB.trans (hb5.mono HB.size)
  have hm1 : (m : Int) + 1 = ((m + 1 : Nat) : Int) := by omega
  have hds := hid_of (delete_sn gn n (n + 1) m _ (strs ns) W5 hm (by omega) (strs1 _) hnr)
  rw [← hm1] at hds
  have i6 : W5.cell? ⟨w.heap.size, 6, none⟩ = some (.int .i64 m) := by simp [World.cell?, t0]
  obtain ⟨v0, v1, v2, v3, v4, -⟩ := row_cells t5
  have j1 : (m : Int) + 1 ≤ 9223372036854775807 := by omega
  have j2 : -9223372036854775808 ≤ (m : Int) + 1 := by omega
  replace t0 := hid_of t0; replace t2 := hid_of t2; replace t5 := hid_of t5; replace hrow := hid_of hrow; replace B5 := hid_of B5
  replace hs5 := hid_of hs5; replace hsz := hid_of hsz; replace hI := hid_of hI; replace h0 := hid_of h0; replace HB := hid_of HB; replace hS := hid_of hS; replace hgi := hid_of hgi; replace hgn := hid_of hgn; replace hcap := hid_of hcap; replace hne := hid_of hne
  clear hb5 hnr hm1
  go_wp2_with (rw [hW5.out])
  refine hds.out.mono ?_
  rintro e w6 ⟨rfl, hbut6, hr6⟩
  clear v0 v1 v2 v3 v4 i6 hds
  have hgn1 := hgn.out; have hgi1 := hgi.out; have hs51 := hs5.out; have hsz1 := hsz.out; have hne1 := hne.out
  have u5 := (hbut6.block _ (show w4.heap.size ≠ gn by omega)).trans t5.out
  have u0 := (hbut6.block _ (show w.heap.size ≠ gn by omega)).trans t0.out
  have u2 := (hbut6.block _ (show w.heap.size + 1 ≠ gn by omega)).trans t2.out
  have hrow6 := ownsRow_keep hrow.out (fun g hg => by cases hg; exact hbut6.block gi (fun e => hne1 e.symm))
  have B6 : Below w.heap.size w w6 := B5.out.trans (but_below hbut6 (by omega))
  have s6 : w6.heap.size = w4.heap.size + 1 := by rw [hbut6.size]; exact hs51
  obtain ⟨W7, hW7⟩ : ∃ W7, Hid (w6.setCell ⟨w4.heap.size, 3, none⟩ (.slice (some ⟨gn, 0, none⟩) (n - 1) (n + 1)) = W7) := ⟨_, rfl⟩
  have t57 : W7.heap[w4.heap.size]? = some (.cells #[.int .i64 6, .int .i64 0, .string ⟨#[]⟩, .slice (some ⟨gn, 0, none⟩) (n - 1) (n + 1), .slice (some ⟨gi, 0, none⟩) n (n + 1)] 25) := by rw [← hW7.out]; simp [World.setCell, Array.getElem?_modify, u5]
  have k7 : ∀ j, j ≠ w4.heap.size → W7.heap[j]? = w6.heap[j]? := fun j hj => by rw [← hW7.out]; exact Below.heap_setCell _ _ _ _ hj
  have s7 : W7.heap.size = w6.heap.size := by rw [← hW7.out]; simp [World.setCell]
  have B7 : Below w.heap.size w W7 := ⟨by rw [← hW7.out]; exact B6.os, by rw [← hW7.out]; exact B6.tape, by rw [← hW7.out]; exact B6.output, by rw [s7]; exact B6.size, fun j hj => (k7 j (by omega)).trans (B6.block j hj)⟩
  have t07 := (k7 _ (show w.heap.size ≠ w4.heap.size by omega)).trans u0
  have t27 := (k7 _ (show w.heap.size + 1 ≠ w4.heap.size by omega)).trans u2
  have hrow7 := ownsRow_keep hrow6 (fun g hg => by cases hg; exact k7 gi (by omega))
  have hr7 := ownsRow_keep hr6 (fun g hg => by cases hg; exact k7 gn (by omega))
  have hdi := hid_of (delete_vn gi n (n + 1) m _ xs W7 hm (by omega) (ItemsRep.ones hI.out) hrow7)
  rw [show (((m + 1 : Nat) : Int)) = (m : Int) + 1 by omega] at hdi
  obtain ⟨c0, c1, c2, c3, c4, cf⟩ := row_cells u5
  have f3 := cf 3
  clear cf
  have i6 : W7.cell? ⟨w.heap.size, 6, none⟩ = some (.int .i64 m) := by simp [World.cell?, t07]
  obtain ⟨v0, v1, v2, v3, v4, -⟩ := row_cells t57
  replace u5 := hid_of u5; replace u0 := hid_of u0; replace u2 := hid_of u2; replace t57 := hid_of t57; replace t07 := hid_of t07; replace t27 := hid_of t27
  replace B6 := hid_of B6; replace B7 := hid_of B7; replace s6 := hid_of s6; replace s7 := hid_of s7; replace hr7 := hid_of hr7; replace hbut6 := hid_of hbut6
  clear hrow6 hr6 k7 hrow7 t0 t2 t5 hrow hgn1 hgi1 hs51 hsz1 hne1
  go_wp2_with (rw [hW7.out])
  refine hdi.out.mono ?_
  rintro e w8 ⟨rfl, hbut8, hr8⟩
  clear v0 v1 v2 v3 v4 i6 hdi c0 c1 c2 c3 c4 f3 j1 j2
  have hgn1 := hgn.out; have hgi1 := hgi.out; have hsz1 := hsz.out; have hne1 := hne.out; have s61 := s6.out; have s71 := s7.out
  have u8 := (hbut8.block _ (show w4.heap.size ≠ gi by omega)).trans t57.out
  have u28 := (hbut8.block _ (show w.heap.size + 1 ≠ gi by omega)).trans t27.out
  have hr8n := ownsRow_keep hr7.out (fun g hg => by cases hg; exact hbut8.block gn hne1)
  have B8 : Below w.heap.size w w8 := B7.out.trans (but_below hbut8 (by omega))
  have s8 : w8.heap.size = w4.heap.size + 1 := by rw [hbut8.size]; omega
  obtain ⟨W9, hW9⟩ : ∃ W9, Hid (w8.setCell ⟨w4.heap.size, 4, none⟩ (.slice (some ⟨gi, 0, none⟩) (n - 1) (n + 1)) = W9) := ⟨_, rfl⟩
  have t59 : W9.heap[w4.heap.size]? = some (.cells #[.int .i64 6, .int .i64 0, .string ⟨#[]⟩, .slice (some ⟨gn, 0, none⟩) (n - 1) (n + 1), .slice (some ⟨gi, 0, none⟩) (n - 1) (n + 1)] 25) := by rw [← hW9.out]; simp [World.setCell, Array.getElem?_modify, u8]
  have k9 : ∀ j, j ≠ w4.heap.size → W9.heap[j]? = w8.heap[j]? := fun j hj => by rw [← hW9.out]; exact Below.heap_setCell _ _ _ _ hj
  have s9 : W9.heap.size = w8.heap.size := by rw [← hW9.out]; simp [World.setCell]
  have B9 : Below w.heap.size w W9 := ⟨by rw [← hW9.out]; exact B8.os, by rw [← hW9.out]; exact B8.tape, by rw [← hW9.out]; exact B8.output, by rw [s9]; exact B8.size, fun j hj => (k9 j (by omega)).trans (B8.block j hj)⟩
  have t29 := (k9 _ (show w.heap.size + 1 ≠ w4.heap.size by omega)).trans u28
  have r9i := ownsRow_keep hr8 (fun g hg => by cases hg; exact k9 gi (by omega))
  have r9n := ownsRow_keep hr8n (fun g hg => by cases hg; exact k9 gn (by omega))
  obtain ⟨c0, c1, c2, c3, c4, cf⟩ := row_cells u8
  have f4 := cf 4
  clear cf
  obtain ⟨v0, v1, v2, v3, v4, -⟩ := row_cells t59
  obtain ⟨z0, z1, z2, z3, z4, zf⟩ := row_cells t29
  have g0 := zf 0; have g1 := zf 1; have g2 := zf 2; have g3 := zf 3; have g4 := zf 4
  clear zf
  replace u8 := hid_of u8; replace t29 := hid_of t29; replace B9 := hid_of B9; replace s9 := hid_of s9; replace s8 := hid_of s8; replace r9i := hid_of r9i; replace r9n := hid_of r9n
  clear hr8 hr8n k9 u28 t59 B8 hbut8 hgn1 hgi1 hsz1 hne1 s61 s71
  go_wp2_with (rw [hW9.out])
  have hr := put5_cells t29.out (.int .i64 6) (.int .i64 0) (.string ⟨#[]⟩) (.slice (some ⟨gn, 0, none⟩) (n - 1) (n + 1)) (.slice (some ⟨gi, 0, none⟩) (n - 1) (n + 1))
  have q0 := hr 0; have q1 := hr 1; have q2 := hr 2; have q3 := hr 3; have q4 := hr 4
  clear hr
  refine bodyPost_ret (v := .agg #[.int .i64 6, .int .i64 0, .string ⟨#[]⟩, .slice (some ⟨gn, 0, none⟩) (n - 1) (n + 1), .slice (some ⟨gi, 0, none⟩) (n - 1) (n + 1)]) (by simp [results, Try.results33, go_sem, q0, q1, q2, q3, q4]) rfl ?_
  clear q0 q1 q2 q3 q4 z0 z1 z2 z3 z4 g0 g1 g2 g3 g4 v0 v1 v2 v3 v4 c0 c1 c2 c3 c4 f4
  have hgn1 := hgn.out; have hgi1 := hgi.out; have hsz1 := hsz.out; have s91 := s9.out; have s81 := s8.out
  have hBf : Below w.heap.size w (put5 W9 (w.heap.size + 1) (.int .i64 6) (.int .i64 0) (.string ⟨#[]⟩) (.slice (some ⟨gn, 0, none⟩) (n - 1) (n + 1)) (.slice (some ⟨gi, 0, none⟩) (n - 1) (n + 1))) := B9.out.trans (put5_below (by omega) _ _ _ _ _)
  refine ⟨hBf, five 6 0 ⟨#[]⟩ (.slice (some ⟨gn, 0, none⟩) (n - 1) (n + 1)) (.slice (some ⟨gi, 0, none⟩) (n - 1) (n + 1)), _, _, _, _, _, _, _, _, _, rfl, rfl, ?_⟩
  have hli : (its.eraseIdx m).length = n - 1 := erase_len hn hm
  have hln : (ns.eraseIdx m).length = n - 1 := erase_len hns hm
  have rfi := ownsRow_keep (w' := put5 W9 (w.heap.size + 1) (.int .i64 6) (.int .i64 0) (.string ⟨#[]⟩) (.slice (some ⟨gn, 0, none⟩) (n - 1) (n + 1)) (.slice (some ⟨gi, 0, none⟩) (n - 1) (n + 1))) (ownsRow_lo r9i.out (show w.heap.size ≤ w.heap.size + 1 + 1 by omega)) (fun g hg => by cases hg; exact put5_far _ _ _ _ _ (show gi ≠ w.heap.size + 1 by omega))
  have rfn := ownsRow_keep (w' := put5 W9 (w.heap.size + 1) (.int .i64 6) (.int .i64 0) (.string ⟨#[]⟩) (.slice (some ⟨gn, 0, none⟩) (n - 1) (n + 1)) (.slice (some ⟨gi, 0, none⟩) (n - 1) (n + 1))) (ownsRow_lo r9n.out (show w.heap.size ≤ w.heap.size + 1 + 1 by omega)) (fun g hg => by cases hg; exact put5_far _ _ _ _ _ (show gn ≠ w.heap.size + 1 by omega))
  rw [strs_erase] at rfn
  have hfin := with_fin (k := 6) (ns := ns.eraseIdx m) (its := its.eraseIdx m) (nm := .slice (some ⟨gn, 0, none⟩) (n - 1) (n + 1)) (gi := gi) (ci := n + 1) h0.out hS.out hBf (by
    rw [hli]
    exact rfi) (by
    rw [← hln] at rfn ⊢
    exact seenR_own rfn) (fun W' hk hs ha => (hI.out.mono hk hs).erase m)
  rw [hli] at hfin
  exact hfin
end Go.Proofs.Ytmlbofbnklmedaa
