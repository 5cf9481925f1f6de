import Derived.Test.YteojoaceecncnaaCK
/-! cursor: From over three items. -/
namespace Go.Proofs.Yteojoaceecncnaa
open Go Go.RowKit

/-- What a page over a list leaves: what it tells, and the cursor. -/
structure FPost (kk : Nat → ByteArray) (nn : Nat → Int) (cb batch : Nat) (w : World) (st : Pg) (a : Option Addr) (c : Nat) (w' : World) : Prop where
  cu : CuAt w' cb batch st.looked st.rank st.key (! decide (st.docs.length = batch))
  row : Rw w' w.heap.size 7 a st.docs.length c (flatD kk nn st.docs)
  fr : Fr (fun b => b = cb) w w'
set_option maxHeartbeats 4000000 in
set_option maxRecDepth 100000 in
theorem from3 (ib c cb batch : Nat) (kk : Nat → ByteArray) (nn : Nat → Int) (p0 : Pg) (w : World) (ht : Turned kk) (hI : ItsAt w ib kk nn) (hl : p0.looked ≤ 1000) (hd : p0.docs = []) (hC : CuAt w cb batch p0.looked p0.rank p0.key false) :
    Calls Try.prog 8 #[.pointer (some ⟨cb, 0, none⟩), .slice (some ⟨ib, 0, none⟩) 3 c] w fun e w' => ∃ a cc, e = .returned (.tuple #[.slice a (p0.run kk batch 3).docs.length cc, .bool (! decide ((p0.run kk batch 3).docs.length = batch))]) ∧ FPost kk nn cb batch w (p0.run kk batch 3) a cc w' := by
  obtain ⟨⟨c0, c1, c2, c3, c4, c5, c6⟩, -⟩ := hC.cells
  have hlt := hid_of (Array.getElem?_eq_some_iff.1 hC).1
  have hlti : Hid (ib < w.heap.size) := lt_of_cell (hI 0 (by decide)).1
  have hdn := hid_of (done_any cb batch p0.looked p0.rank p0.key false w hC)
  have hB := (Below.refl _ w).alloc (Nat.le_refl _) (.cells #[.pointer none, .pointer none, .int .i64 batch, .int .i64 p0.looked, .int .u64 p0.rank, .string p0.key, .bool false, .slice none 0 0, .int .i64 0] 64)
  have hP : PgAt (w.alloc (.cells #[.pointer none, .pointer none, .int .i64 batch, .int .i64 p0.looked, .int .u64 p0.rank, .string p0.key, .bool false, .slice none 0 0, .int .i64 0] 64)) w.heap.size batch p0.looked p0.rank p0.key (.slice none 0 0) := heap_alloc_new w _
  obtain ⟨W1, hW1⟩ : ∃ W1, Hid (w.alloc (.cells #[.pointer none, .pointer none, .int .i64 batch, .int .i64 p0.looked, .int .u64 p0.rank, .string p0.key, .bool false, .slice none 0 0, .int .i64 0] 64) = W1) := ⟨_, rfl⟩
  rw [hW1.out] at hP hB
  have hlk := hid_of (look3 ib c w.heap.size batch kk nn p0 W1 ht (hI.keep hB) (by have := hlti.out; omega) hl hd hP)
  replace hC := hid_of (hC.frame (Fr.of_below (S := fun _ => False) hB) (fun h => h))
  replace hB := hid_of hB
  replace hP := hid_of hP
  clear hI ht hl hd
  obtain ⟨st, hst⟩ : ∃ st, Hid (p0.run kk batch 3 = st) := ⟨_, rfl⟩
  rw [hst.out] at hlk ⊢
  clear hst
  go_enter Try.func8, Try.ntmps8
  go_wp2_with fail
  refine hdn.out.mono ?_
  rintro e X1 ⟨rfl, hX⟩
  have hX := hX.symm; subst hX
  clear hdn
  go_upto_region 4 with (rw [hW1.out])
  clear c0 c1 c2 c3 c4 c5 c6
  go_wp2_with fail
  refine hlk.out.mono ?_
  rintro e X2 ⟨rfl, Wm, a, cc, hBm, hL⟩
  have hCm := (hC.out.frame (Fr.of_below (S := fun _ => False) hBm) (fun h => h)).frame hL.fr (by have := hlt.out; omega)
  have hF0 : Fr (fun b => b = w.heap.size) w X2 := ((Fr.of_below hB.out).trans (Fr.of_below hBm)).trans hL.fr
  have hF2 := hid_of (hF0.mono (T := fun b => b = cb) (fun i e => .inr (by rw [e]; exact Nat.le_refl _)))
  have hsz := hid_of (Nat.le_trans hB.out.size hBm.size)
  obtain ⟨⟨p0', p1, p2, p3, p4, p5, p6, p7, p8⟩, -⟩ := hL.page.cells
  replace hL := hid_of hL
  have htn := hid_of (turn_any cb batch _ _ st.looked st.rank st.docs.length cc _ st.key _ a X2 hCm)
  clear hCm hF0 hlk hB hP hC hBm hW1
  go_wp2_with fail
  refine htn.out.mono ?_
  rintro e X3 ⟨rfl, hC3, hF3⟩
  replace hC3 := hid_of hC3
  replace hF3 := hid_of hF3
  clear htn p0' p1 p2 p3 p4 p5 p6 p7 p8
  go_wp2_with fail
  go_ret2
  refine ⟨a, cc, rfl, hC3.out, ?_, hF2.out.trans hF3.out⟩
  have hr := hL.out.row
  rcases hr.pt with h0 | ⟨b', o, rfl, h1, h2, -⟩
  · exact ⟨hr.len, hr.le, hr.mx, .inl h0⟩
  · have hr2 := hr.keep (w' := X3) hF3.out.size (fun k hk hkl => hF3.out.block k hkl (fun e => by obtain ⟨o', s', e'⟩ := hk; cases e'; have := hsz.out; have := hlt.out; omega))
    refine ⟨hr2.len, hr2.le, hr2.mx, ?_⟩
    rcases hr2.pt with h0 | ⟨b2, o2, e2, g1, g2, g3, g4⟩
    · exact .inl h0
    · exact .inr ⟨b2, o2, e2, Nat.le_trans hsz.out g1, g2, g3, g4⟩
end Go.Proofs.Yteojoaceecncnaa
