import Derived.Test.YtdfkfnhppjhghaaGreatQ7
/-! A test {"$gt": 4} read: its one term. -/
namespace Go.Proofs.YtdfkfnhppjhghaaGreat
open Go Go.RowKit

/-- Where the closure's cells lie. -/
def GtIn (w : World) (b4 lo b2 : Nat) : Prop := ∃ b3, lo ≤ b3 ∧ w.cell? ⟨b4, 0, none⟩ = some (.func (.func 83) #[] #[.pointer (some ⟨b3, 0, none⟩), .pointer (some ⟨b2, 0, none⟩)])
set_option maxHeartbeats 1000000 in
set_option maxRecDepth 100000 in
theorem compares1_four (b2 : Nat) (w : World) (h2 : w.cell? ⟨b2, 0, none⟩ = some (.func (.func 56) #[] #[])) :
    Calls Tryz.prog 82 #[numV 4, .pointer (some ⟨b2, 0, none⟩)] w fun e w' => Below w.heap.size w w' ∧ ∃ b4, w.heap.size ≤ b4 ∧ e = .returned (.func (.func 86) #[] #[.pointer (some ⟨b4, 0, none⟩)]) ∧ Gt w' b4 ∧ GtIn w' b4 w.heap.size b2 := by
  have h2' := fun o1 o2 => cell_alloc' (cell_alloc' h2 o1) o2
  have n1 := fun o2 => new1 w (.cells #[.int .i64 3, .int .i64 4, .string ⟨#[]⟩, .slice none 0 0, .slice none 0 0] 28) o2
  clear h2
  unfold numV
  go_enter Tryz.func82, Tryz.ntmps82
  go_wp2
  go_ret
  refine ⟨((Below.refl _ w).alloc (Nat.le_refl _) _).alloc (by simp) _, w.heap.size + 1, by omega, rfl, ⟨w.heap.size, b2, ?_, ?_, h2' _ _⟩, w.heap.size, Nat.le_refl _, cell_of_one (new2 w _ _)⟩
  · exact cell_of_one (new2 w _ _)
  · obtain ⟨c0, c1, c2, c3, c4, -⟩ := row_cells (n1 (.cells #[.func (.func 83) #[] #[.pointer (some ⟨w.heap.size, 0, none⟩), .pointer (some ⟨b2, 0, none⟩)]] 24))
    exact ⟨c0, c1, c2, c3, c4⟩
set_option maxHeartbeats 1000000 in
set_option maxRecDepth 100000 in
theorem anything1_four (r : Value) (d : Int) (b1 b2 : Nat) (w : World) (h1 : w.cell? ⟨b1, 0, none⟩ = some (.func (.func 82) #[] #[.pointer (some ⟨b2, 0, none⟩)])) (h2 : w.cell? ⟨b2, 0, none⟩ = some (.func (.func 56) #[] #[])) :
    Calls Tryz.prog 77 #[r, numV 4, .int .i64 d, .pointer (some ⟨b1, 0, none⟩)] w fun e w' => Below w.heap.size w w' ∧ ∃ b4, w.heap.size ≤ b4 ∧ e = .returned (.tuple #[.func (.func 86) #[] #[.pointer (some ⟨b4, 0, none⟩)], .int .i64 0]) ∧ Gt w' b4 ∧ GtIn w' b4 w.heap.size b2 := by
  have HB : Below w.heap.size w (w.alloc (numC 4)) := (Below.refl _ w).alloc (Nat.le_refl _) _
  have g1 := stay HB h1
  have hc := hid_of (compares1_four b2 _ (stay HB h2))
  clear h1 h2
  unfold numC at HB g1 hc
  unfold numV at *
  go_enter Tryz.func77, Tryz.ntmps77
  go_wp2_with fail
  refine hc.out.mono ?_
  rintro e w1 ⟨hb, b4, hle, rfl, hG, hG2⟩
  replace hG := hid_of hG; replace hG2 := hid_of hG2
  clear hc g1
  go_wp2_with fail
  go_ret2
  obtain ⟨b3, h3, h4⟩ := hG2.out
  exact ⟨HB.trans (hb.mono HB.size), b4, by simp at hle; omega, rfl, hG.out, b3, by simp at h3; omega, h4⟩
/-- All is as it was but for block g's cells. -/
structure But (g : Nat) (w w' : World) : Prop where
  os : w'.os = w.os
  tape : w'.tape = w.tape
  output : w'.output = w.output
  size : w'.heap.size = w.heap.size
  block : ∀ k, k ≠ g → w'.heap[k]? = w.heap[k]?
theorem But.refl (g : Nat) (w : World) : But g w w := ⟨rfl, rfl, rfl, rfl, fun _ _ => rfl⟩
theorem But.set {g : Nat} {w w' : World} (h : But g w w') (o : Nat) (v : Value) : But g w (w'.setCell ⟨g, o, none⟩ v) := ⟨h.os, h.tape, h.output, by rw [← h.size]; simp [World.setCell], fun k hk => (Below.heap_setCell _ _ _ _ hk).trans (h.block k hk)⟩
/-- The reader, in memory. -/
def ReaderAt (w : World) (br m : Nat) (n : Int) : Prop := w.heap[br]? = some (.cells #[.map (some m), .int .i64 n] 74 (0, 0))
theorem Table.mono {w w' : World} {m b1 b2 : Nat} (h : Table w m b1 b2) (hk : ∀ k, k = m ∨ k = b1 ∨ k = b2 → w'.heap[k]? = w.heap[k]?) : Table w' m b1 b2 := by
  obtain ⟨es, c, h1, h2⟩ := h.found
  exact ⟨⟨es, c, (hk m (.inl rfl)).trans h1, h2⟩, (World.cell?_of_block (w := w) (hk b1 (.inr (.inl rfl)))).trans h.one, (World.cell?_of_block (w := w) (hk b2 (.inr (.inr rfl)))).trans h.two⟩
theorem Table.lt {w : World} {m b1 b2 : Nat} (h : Table w m b1 b2) : m < w.heap.size ∧ b1 < w.heap.size ∧ b2 < w.heap.size := by
  obtain ⟨es, c, h1, h2⟩ := h.found
  exact ⟨(Array.getElem?_eq_some_iff.1 h1).1, lt_of_cell h.one, lt_of_cell h.two⟩
set_option maxHeartbeats 800000 in
set_option maxRecDepth 100000 in
theorem term_gt (br m b1 b2 : Nat) (d : Int) (w : World) (hR : ReaderAt w br m 0) (hT : Table w m b1 b2) (hm : m ≠ br) (h1 : b1 ≠ br) (h2 : b2 ≠ br) :
    Calls Tryz.prog 130 #[.pointer (some ⟨br, 0, none⟩), .string dollarGt, numV 4, .int .i64 d] w fun e w' => w.grownBy w' (some br) ∧ ReaderAt w' br m 1 ∧ ∃ b4, w.heap.size ≤ b4 ∧ e = .returned (.tuple #[.agg #[.int .i64 2, .int .i64 3, .int .i64 4, .string ⟨#[]⟩, .slice none 0 0, .slice none 0 0, .func (.func 86) #[] #[.pointer (some ⟨b4, 0, none⟩)]], .int .i64 0]) ∧ Gt w' b4 := by
  have hlt := hT.lt
  have hbr := (Array.getElem?_eq_some_iff.1 hR).1
  obtain ⟨X, hX⟩ : ∃ X, Hid ((w.alloc (numC 4)).alloc (.cells #[.int .i64 0, .int .i64 0, .int .i64 0, .string ⟨#[]⟩, .slice none 0 0, .slice none 0 0, .nilFunc] 96) = X) := ⟨_, rfl⟩
  have HB : Below w.heap.size w X := by rw [← hX.out]; exact ((Below.refl _ w).alloc (Nat.le_refl _) _).alloc (by simp) _
  have n1 : X.heap[w.heap.size]? = some (numC 4) := by rw [← hX.out]; exact new1 w _ _
  have n2 : X.heap[w.heap.size + 1]? = some (.cells #[.int .i64 0, .int .i64 0, .int .i64 0, .string ⟨#[]⟩, .slice none 0 0, .slice none 0 0, .nilFunc] 96) := by rw [← hX.out]; exact new2 w _ _
  have hXs : X.heap.size = w.heap.size + 2 := by rw [← hX.out]; simp
  have hRX : ReaderAt X br m 0 := (HB.block br hbr).trans hR
  have r0 : X.cell? ⟨br, 0, none⟩ = some (.map (some m)) := by unfold ReaderAt at hRX; simp [World.cell?, hRX]
  have r1 : X.cell? ⟨br, 1, none⟩ = some (.int .i64 0) := by unfold ReaderAt at hRX; simp [World.cell?, hRX]
  have f1 : X.frozen? ⟨br, 1, none⟩ = false := by unfold ReaderAt at hRX; simp [World.frozen?, hRX]
  obtain ⟨Y, hY⟩ : ∃ Y, Hid (X.setCell ⟨br, 1, none⟩ (.int .i64 1) = Y) := ⟨_, rfl⟩
  have kY : ∀ k, k ≠ br → Y.heap[k]? = X.heap[k]? := fun k hk => by rw [← hY.out]; exact Below.heap_setCell _ _ _ _ hk
  have sY : Y.heap.size = X.heap.size := by rw [← hY.out]; simp [World.setCell]
  have hRY : ReaderAt Y br m 1 := by
    unfold ReaderAt at hRX ⊢
    rw [← hY.out]
    simp [World.setCell, Array.getElem?_modify, hRX]
  have hTY : Table Y m b1 b2 := hT.mono (fun k hk => by
    have : k ≠ br ∧ k < w.heap.size := by rcases hk with rfl | rfl | rfl; exact ⟨hm, hlt.1⟩; exact ⟨h1, hlt.2.1⟩; exact ⟨h2, hlt.2.2⟩
    exact (kY k this.1).trans (HB.block k this.2))
  have hG0 : Hid (w.grownBy Y (some br)) := hid_of (by
    refine ⟨?_, ?_, ?_, ?_, fun k hk hne => (kY k (fun e => hne (by rw [e]))).trans (HB.block k hk)⟩
    · rw [← hY.out]; exact HB.os
    · rw [← hY.out]; exact HB.tape
    · rw [← hY.out]; exact HB.output
    · rw [sY]; exact HB.size)
  have y0 : Y.cell? ⟨br, 0, none⟩ = some (.map (some m)) := by unfold ReaderAt at hRY; simp [World.cell?, hRY]
  obtain ⟨es, c, e1, e2⟩ := hTY.found
  have hlk := run_look (P := Tryz.prog) Y Tryz.underlying71 Tryz.underlying9 e1 e2
  have m1 : Y.heap[w.heap.size]? = some (numC 4) := (kY _ (by omega)).trans n1
  have m2 : Y.heap[w.heap.size + 1]? = some (.cells #[.int .i64 0, .int .i64 0, .int .i64 0, .string ⟨#[]⟩, .slice none 0 0, .slice none 0 0, .nilFunc] 96) := (kY _ (by omega)).trans n2
  obtain ⟨Z, hZ⟩ : ∃ Z, Hid (Y.alloc (.cells #[.int .i64 2, .func (.func 77) #[] #[.pointer (some ⟨b1, 0, none⟩)]] 104) = Z) := ⟨_, rfl⟩
  have HZ : Below Y.heap.size Y Z := by rw [← hZ.out]; exact (Below.refl _ Y).alloc (Nat.le_refl _) _
  have sZ : Z.heap.size = Y.heap.size + 1 := by rw [← hZ.out]; simp
  have oZ : Z.heap[Y.heap.size]? = some (.cells #[.int .i64 2, .func (.func 77) #[] #[.pointer (some ⟨b1, 0, none⟩)]] 104) := by rw [← hZ.out]; exact heap_alloc_new Y _
  have o0 : Z.cell? ⟨Y.heap.size, 0, none⟩ = some (.int .i64 2) := by simp [World.cell?, oZ]
  have o1 : Z.cell? ⟨Y.heap.size, 1, none⟩ = some (.func (.func 77) #[] #[.pointer (some ⟨b1, 0, none⟩)]) := by simp [World.cell?, oZ]
  have k1 := block_keep m1 HZ
  have k2 := block_keep m2 HZ
  have hRZ : ReaderAt Z br m 1 := block_keep hRY HZ
  have hany := hid_of (anything1_four (.pointer (some ⟨br, 0, none⟩)) d b1 b2 Z (stay HZ hTY.one) (stay HZ hTY.two))
  unfold numC at k1 hX
  obtain ⟨v0, v1, v2, v3, v4, -⟩ := row_cells k1
  have hG1 : Hid (w.grownBy Z (some br)) := hid_of (grown_tr hG0.out ⟨HZ.os, HZ.tape, HZ.output, HZ.size, fun k hk _ => HZ.block k hk⟩)
  have hbrn : Hid (br ≠ w.heap.size + 1) := hid_of (by omega)
  have hb2n : Hid (b2 < w.heap.size) := hid_of hlt.2.2
  replace hRZ := hid_of hRZ; replace k2 := hid_of k2; replace hXs := hid_of hXs; replace sY := hid_of sY; replace sZ := hid_of sZ
  clear hR hT hlt hbr HB n1 n2 hRX kY hRY hTY hG0 e1 e2 m1 m2 HZ oZ k1 hm h1 h2
  unfold numV at *
  unfold dollarGt at *
  go_enter Tryz.func130, Tryz.ntmps130
  go_wp2_with (first | rw [hX.out] | rw [hY.out] | rw [hZ.out])
  refine hany.out.mono ?_
  rintro e w5 ⟨hb5, b4, hle, rfl, hG5, hI5⟩
  have hsep : ∀ b3 b2', w5.cell? ⟨b4, 0, none⟩ = some (.func (.func 83) #[] #[.pointer (some ⟨b3, 0, none⟩), .pointer (some ⟨b2', 0, none⟩)]) → b3 ≠ w.heap.size + 1 ∧ b2' ≠ w.heap.size + 1 := fun b3 b2' h => by
    obtain ⟨b3', h3, h4⟩ := hI5
    rw [h4] at h
    have e1 := hXs.out; have e2 := sY.out; have e3 := sZ.out; have e4 := hb2n.out
    simp at h
    obtain ⟨rfl, rfl⟩ := h
    omega
  have hk2 := block_keep k2.out hb5
  have p0 := stay hb5 o0
  have u0 := stay hb5 v0; have u1 := stay hb5 v1; have u2 := stay hb5 v2; have u3 := stay hb5 v3; have u4 := stay hb5 v4
  have z0 : w5.cell? ⟨w.heap.size + 1, 0, none⟩ = some (.int .i64 0) := by simp [World.cell?, hk2]
  have zf0 : w5.frozen? ⟨w.heap.size + 1, 0, none⟩ = false := by simp [World.frozen?, hk2]
  have z1 : w5.cell? ⟨w.heap.size + 1, 1, none⟩ = some (.int .i64 0) := by simp [World.cell?, hk2]
  have zf1 : w5.frozen? ⟨w.heap.size + 1, 1, none⟩ = false := by simp [World.frozen?, hk2]
  have z2 : w5.cell? ⟨w.heap.size + 1, 2, none⟩ = some (.int .i64 0) := by simp [World.cell?, hk2]
  have zf2 : w5.frozen? ⟨w.heap.size + 1, 2, none⟩ = false := by simp [World.frozen?, hk2]
  have z3 : w5.cell? ⟨w.heap.size + 1, 3, none⟩ = some (.string ⟨#[]⟩) := by simp [World.cell?, hk2]
  have zf3 : w5.frozen? ⟨w.heap.size + 1, 3, none⟩ = false := by simp [World.frozen?, hk2]
  have z4 : w5.cell? ⟨w.heap.size + 1, 4, none⟩ = some (.slice none 0 0) := by simp [World.cell?, hk2]
  have zf4 : w5.frozen? ⟨w.heap.size + 1, 4, none⟩ = false := by simp [World.frozen?, hk2]
  have z5 : w5.cell? ⟨w.heap.size + 1, 5, none⟩ = some (.slice none 0 0) := by simp [World.cell?, hk2]
  have zf5 : w5.frozen? ⟨w.heap.size + 1, 5, none⟩ = false := by simp [World.frozen?, hk2]
  have z6 : w5.cell? ⟨w.heap.size + 1, 6, none⟩ = some (.nilFunc) := by simp [World.cell?, hk2]
  have zf6 : w5.frozen? ⟨w.heap.size + 1, 6, none⟩ = false := by simp [World.frozen?, hk2]
  obtain ⟨W7, hW7⟩ : ∃ W7, Hid ((((((((w5.setCell ⟨w.heap.size + 1, 0, none⟩ (.int .i64 2)).setCell ⟨w.heap.size + 1, 1, none⟩ (.int .i64 3)).setCell ⟨w.heap.size + 1, 2, none⟩ (.int .i64 4)).setCell ⟨w.heap.size + 1, 3, none⟩ (.string ⟨#[]⟩)).setCell ⟨w.heap.size + 1, 4, none⟩ (.slice none 0 0)).setCell ⟨w.heap.size + 1, 5, none⟩ (.slice none 0 0)).setCell ⟨w.heap.size + 1, 6, none⟩ (.func (.func 86) #[] #[.pointer (some ⟨b4, 0, none⟩)])) = W7) := ⟨_, rfl⟩
  have hk7 : W7.heap[w.heap.size + 1]? = some (.cells #[.int .i64 2, .int .i64 3, .int .i64 4, .string ⟨#[]⟩, .slice none 0 0, .slice none 0 0, .func (.func 86) #[] #[.pointer (some ⟨b4, 0, none⟩)]] 96 (0, 0)) := by rw [← hW7.out]; simp [World.setCell, Array.getElem?_modify, hk2]
  have hbut : But (w.heap.size + 1) w5 W7 := by
    rw [← hW7.out]
    exact (((((((But.refl _ w5).set 0 _).set 1 _).set 2 _).set 3 _).set 4 _).set 5 _).set 6 _
  have q0 : W7.cell? ⟨w.heap.size + 1, 0, none⟩ = some (.int .i64 2) := by simp [World.cell?, hk7]
  have q1 : W7.cell? ⟨w.heap.size + 1, 1, none⟩ = some (.int .i64 3) := by simp [World.cell?, hk7]
  have q2 : W7.cell? ⟨w.heap.size + 1, 2, none⟩ = some (.int .i64 4) := by simp [World.cell?, hk7]
  have q3 : W7.cell? ⟨w.heap.size + 1, 3, none⟩ = some (.string ⟨#[]⟩) := by simp [World.cell?, hk7]
  have q4 : W7.cell? ⟨w.heap.size + 1, 4, none⟩ = some (.slice none 0 0) := by simp [World.cell?, hk7]
  have q5 : W7.cell? ⟨w.heap.size + 1, 5, none⟩ = some (.slice none 0 0) := by simp [World.cell?, hk7]
  have q6 : W7.cell? ⟨w.heap.size + 1, 6, none⟩ = some (.func (.func 86) #[] #[.pointer (some ⟨b4, 0, none⟩)]) := by simp [World.cell?, hk7]
  have hfin : Hid (w.grownBy W7 (some br) ∧ ReaderAt W7 br m 1 ∧ Gt W7 b4 ∧ w.heap.size ≤ b4) := hid_of (by
    have e1 := hXs.out; have e2 := sY.out; have e3 := sZ.out; have e4 := hb5.size
    have hRb := (Array.getElem?_eq_some_iff.1 hRZ.out).1
    have hbrne : br ≠ w.heap.size + 1 := hbrn.out
    obtain ⟨b3, b2', g1, g2, g3⟩ := hG5.is
    obtain ⟨hl3, hl2⟩ := hsep b3 b2' g1
    have w57 : ∀ p : Addr, p.block ≠ w.heap.size + 1 → ∀ v, w5.cell? p = some v → W7.cell? p = some v := fun p hp v h => (World.cell?_of_block (w := w5) (hbut.block _ hp)).trans h
    refine ⟨?_, (hbut.block br hbrne).trans (block_keep hRZ.out hb5), ⟨b3, b2', w57 _ (show b4 ≠ w.heap.size + 1 by omega) _ g1, ⟨w57 _ hl3 _ g2.1, w57 _ hl3 _ g2.2.1, w57 _ hl3 _ g2.2.2.1, w57 _ hl3 _ g2.2.2.2.1, w57 _ hl3 _ g2.2.2.2.2⟩, w57 _ hl2 _ g3⟩, by omega⟩
    have g := grown_tr hG1.out ⟨hb5.os, hb5.tape, hb5.output, hb5.size, fun k hk _ => hb5.block k hk⟩
    exact ⟨hbut.os.trans g.os, hbut.tape.trans g.tape, hbut.output.trans g.output, by rw [hbut.size]; exact g.size, fun k hk hne => (hbut.block k (by omega)).trans (g.block k hk hne)⟩)
  clear hbut hk7 hk2 hb5 hG5 hany k2
  go_wp2_with (rw [hW7.out])
  refine bodyPost_ret (v := .tuple #[.agg #[.int .i64 2, .int .i64 3, .int .i64 4, .string ⟨#[]⟩, .slice none 0 0, .slice none 0 0, .func (.func 86) #[] #[.pointer (some ⟨b4, 0, none⟩)]], .int .i64 0]) (by simp [results, Tryz.results130, go_sem, q0, q1, q2, q3, q4, q5, q6]) rfl ?_
  obtain ⟨f1, f2, f3, f4⟩ := hfin.out
  exact ⟨f1, f2, b4, f4, rfl, f3⟩
end Go.Proofs.YtdfkfnhppjhghaaGreat
