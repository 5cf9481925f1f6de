import Derived.Test.YtloeongljbgmnaaEU
/-! epoch: made: the law's own world. -/
namespace Go.Proofs.Ytloeongljbgmnaa
open Go Go.RowKit
/-- The law's world, with one client. -/
structure LW (w : World) (wl cb : Nat) (x : Kx) : Prop where
  at_ : ∃ (cg cc : Nat) (cur : Array Value), w.heap[wl]? = some (.cells #[.pointer (some ⟨x.hb, 0, none⟩), .pointer (some ⟨x.kb, 0, none⟩), .slice (some ⟨cg, 0, none⟩) 1 cc] 74 (0, 0)) ∧ w.heap[cg]? = some (.cells cur 71 (0, 0)) ∧ cur[0]? = some (.pointer (some ⟨cb, 0, none⟩))
theorem LW.keep {w w' : World} {wl cb : Nat} {x : Kx} (h : LW w wl cb x) (hk : ∀ (b : Nat) vs ty, w.heap[b]? = some (.cells vs ty (0, 0)) → hotL ty = false → w'.heap[b]? = some (.cells vs ty (0, 0))) : LW w' wl cb x := by
  obtain ⟨cg, cc, cur, h1, h2, h3⟩ := h.at_
  exact ⟨cg, cc, cur, hk _ _ _ h1 rfl, hk _ _ _ h2 rfl, h3⟩
theorem LW.under {w w' : World} {wl cb : Nat} {x : Kx} (h : LW w wl cb x) (hB : Below w.heap.size w w') : LW w' wl cb x := h.keep (fun b _ _ e _ => (hB.block b (Array.getElem?_eq_some_iff.1 e).1).trans e)
theorem HeapS.keepW {lo : Nat} {w w' : World} {hb : Nat} {obj most : Int} {ns : List Nd} {st : List Int} (h : HeapS lo w hb obj most ns st) (hk : FH (· == 74) lo w w') : HeapS lo w' hb obj most ns st := by
  obtain ⟨c, cs, p, h1, h2, h3⟩ := h
  have k : ∀ {b : Nat} {vs : Array Value} {t : TypeId}, w.heap[b]? = some (.cells vs t (0, 0)) → (t == 74) = false → w'.heap[b]? = some (.cells vs t (0, 0)) := fun {b vs t} e ht => hk.cold b vs t e ht
  exact ⟨c, cs, p, h1, ⟨k h2.hbk rfl, k h2.wbk rfl, k h2.pbk rfl, h2.pool.keep (fun b cs hb => hb.elim (fun e => (k e rfl).trans e.symm) (fun e => (k e rfl).trans e.symm)), k h2.mbk rfl, ownsRow_keep h2.row (fun g cs e => (k e rfl).trans e.symm), fun i x hx => k (h2.nd i x hx) rfl, h2.inj, h2.lh, h2.lp, h2.ln⟩, h3⟩
theorem KS.keepW {lo : Nat} {w w' : World} {x : Kx} {v : Kv} (h : KS lo w x v) (hB : FH (· == 74) lo w w') : KS lo w' x v := by
  obtain ⟨vr, r1, r2⟩ := h.r
  obtain ⟨v0, a1, a2⟩ := h.p0
  obtain ⟨v1, b1, b2⟩ := h.p1
  have hk := hB.cold
  exact ⟨hk _ _ _ h.k rfl, hk _ _ _ h.p rfl, ⟨vr, hk _ _ _ r1 rfl, hk _ _ _ r2 rfl⟩, ⟨v0, hk _ _ _ a1 rfl, hk _ _ _ a2 rfl⟩, ⟨v1, hk _ _ _ b1 rfl, hk _ _ _ b2 rfl⟩, hk _ _ _ h.l rfl, h.lr, h.l0, h.l1, h.ll, h.ne⟩
def clientZ : Array Value := #[.int .i64 0, .slice none 0 0, .int .i64 0, .slice none 0 0, .bool false]
theorem pc_u : Try.prog.underlying 72 = some (.slice 71) := by kernel_rfl
theorem pc_info : ∃ ri, Try.prog.info? 71 = some ri ∧ ri.zero = some (.pointer none) ∧ ri.size = 1 ∧ ri.bytes = 8 := by
  have : (Try.prog.info? 71).map (fun i => (i.zero, i.size, i.bytes)) = some (some (.pointer none), 1, 8) := by kernel_rfl
  cases hq : Try.prog.info? 71 with
  | none => rw [hq] at this; cases this
  | some ri => rw [hq] at this; simp at this; exact ⟨ri, rfl, this.1, this.2.1, this.2.2⟩
set_option maxRecDepth 100000 in
set_option maxHeartbeats 4000000 in
theorem made_law (lo : Nat) (w : World) (hlo : lo ≤ w.heap.size) : Calls Try.prog 29 #[.int .i64 2, .int .i64 1] w fun e w' => Below w.heap.size w w' ∧ ∃ (wl cb : Nat) (x : Kx), e = .returned (.pointer (some ⟨wl, 0, none⟩)) ∧ LW w' wl cb x ∧ lo ≤ cb ∧ w'.heap[cb]? = some (.cells clientZ 124 (0, 0)) ∧ KS lo w' x ⟨0, none, 0, 0, 0, 0, 0, 0, none, 0, 0⟩ ∧ HeapS lo w' x.hb 5 1048576 [] [] := by
  obtain ⟨ri, hri, hri1, hri2, hri3⟩ := pc_info
  have hsc := hid_of (scripted_any w)
  have hnum := hid_of (num_any 0)
  obtain ⟨W1, hW1⟩ : ∃ W1, w.alloc (.cells #[.bool false] 55) = W1 := ⟨_, rfl⟩
  have z1 := heap_alloc_new w (.cells #[.bool false] 55)
  have hB1 : Below w.heap.size w W1 := by rw [← hW1]; exact (Below.refl _ w).alloc (Nat.le_refl _) _
  rw [hW1] at z1
  rw [hW1] at hsc
  have hn := hid_of (new_any lo w.heap.size 5 1048576 W1 (Nat.le_trans hlo hB1.size) z1 (by decide) (by decide))
  replace z1 := hid_of z1
  replace hB1 := hid_of hB1
  clear hW1
  go_enter Try.func29, Try.ntmps29
  go_wp2_with fail
  refine hsc.out.mono ?_
  rintro e Z ⟨rfl, hz⟩
  obtain rfl : W1 = Z := hz.symm
  clear hsc hz
  go_wp2_with fail
  refine hn.out.mono ?_
  rintro e W2 ⟨hb, rfl, hB2, hH2⟩
  have hn2 := hid_of (new2_any lo w.heap.size hb W2 (Nat.le_trans hlo (Nat.le_trans hB1.out.size hB2.size)) (up_below hB2 z1.out))
  replace hB2 := hid_of hB2
  replace hH2 := hid_of hH2
  clear hn
  go_wp2_with fail
  refine (hnum.out W2).mono ?_
  rintro e Z ⟨rfl, hz⟩
  obtain rfl : W2 = Z := hz.symm
  clear hz
  go_wp2_with fail
  refine hn2.out.mono ?_
  rintro e W3 ⟨hB3, x, hxb, rfl, hK3⟩
  subst hxb
  have hB03 : Below w.heap.size w W3 := hB1.out.trans ((hB2.out.trans (hB3.mono hB2.out.size)).mono hB1.out.size)
  have hH3 := hH2.out.under hB3
  obtain ⟨W4, hW4⟩ : ∃ W4, Hid (W3.alloc (.cells #[.pointer (some ⟨x.hb, 0, none⟩), .pointer (some ⟨x.kb, 0, none⟩), .slice none 0 0] 74) = W4) := ⟨_, rfl⟩
  have z4 := heap_alloc_new W3 (.cells #[.pointer (some ⟨x.hb, 0, none⟩), .pointer (some ⟨x.kb, 0, none⟩), .slice none 0 0] 74)
  have hB4 : Below W3.heap.size W3 W4 := by rw [← hW4.out]; exact (Below.refl _ W3).alloc (Nat.le_refl _) _
  rw [hW4.out] at z4
  have a2 : W4.cell? ⟨W3.heap.size, 2, none⟩ = some (.slice none 0 0) := cell_of z4 rfl
  obtain ⟨W5, hW5⟩ : ∃ W5, Hid (W4.alloc (.cells #[.int .i64 0, .slice none 0 0, .int .i64 0, .slice none 0 0, .bool false] 124) = W5) := ⟨_, rfl⟩
  have z5 := heap_alloc_new W4 (.cells #[.int .i64 0, .slice none 0 0, .int .i64 0, .slice none 0 0, .bool false] 124)
  have hB5 : Below W4.heap.size W4 W5 := by rw [← hW5.out]; exact (Below.refl _ W4).alloc (Nat.le_refl _) _
  rw [hW5.out] at z5
  obtain ⟨W6, hW6⟩ : ∃ W6, Hid (W5.alloc (.cells #[.pointer (some ⟨W4.heap.size, 0, none⟩)] 71) = W6) := ⟨_, rfl⟩
  have z6 := heap_alloc_new W5 (.cells #[.pointer (some ⟨W4.heap.size, 0, none⟩)] 71)
  have hB6 : Below W5.heap.size W5 W6 := by rw [← hW6.out]; exact (Below.refl _ W5).alloc (Nat.le_refl _) _
  rw [hW6.out] at z6
  have hB36 : Below W3.heap.size W3 W6 := hB4.trans ((hB5.trans (hB6.mono hB5.size)).mono hB4.size)
  have k5 := up_below hB6 z5
  have k4 := up_below hB6 (up_below hB5 z4)
  have hb6 : Below w.heap.size w W6 := hB03.trans (hB36.mono hB03.size)
  have hbs : Hid (w.heap.size ≤ W6.heap.size) := hb6.size
  have hm1 : Hid (0 + 1 ≤ maxLen) := by unfold Hid maxLen; omega
  have hone : Hid (∀ u ∈ [Value.pointer (some ⟨W4.heap.size, 0, none⟩)], u.oneCell' = true) := by unfold Hid; simp [Value.oneCell']
  have hws3 : Hid (w.heap.size ≤ W3.heap.size) := hB03.size
  have hbl6 : Hid (lo ≤ W6.heap.size) := Nat.le_trans hlo hb6.size
  have hcb : Hid (lo ≤ W4.heap.size) := Nat.le_trans hlo (Nat.le_trans hB03.size hB4.size)
  have hK6 := hid_of (hK3.under hB36)
  have hH6 := hid_of (hH3.under hB36)
  replace k5 := hid_of k5
  replace k4 := hid_of k4
  replace hb6 := hid_of hb6
  replace z6 := hid_of z6
  clear hn2 hB03 hH3 hK3 hB3 hB2 hH2 hB1 z1 hB4 hB5 hB6 hB36 z4 z5
  go_wp2_with fail
  refine (hnum.out W3).mono ?_
  rintro e Z ⟨rfl, hz⟩
  obtain rfl : W3 = Z := hz.symm
  clear hz hnum
  go_wp2_with (rw [hW4.out])
  refine wp_loop_rounds 2 ?_
  rw [rounds_succ]
  go_wp2_with (first | rw [hW5.out] | rw [hW6.out] | (at_builtin; refine wpList_append_lies _ rfl _ _ 72 rfl w.heap.size 71 ri _ 1 8 pc_u hri hri1 hri2 hri3 rfl (by decide) _ 0 [] rfl (World.ownsRow_nil _ _ _ _) _ 1 1 [.pointer (some ⟨W4.heap.size, 0, none⟩)] rfl rfl (World.news_of_block z6.out) hone.out (by decide) hm1.out (by decide) hbs.out _ rfl ?_; intro g1 cc W7 r1 r2 r3 r4; have r2' : W6.grownBy W7 none := r2; have k7 := (r2'.block _ (Array.getElem?_eq_some_iff.1 k4.out).1 (fun e => by cases e)).trans k4.out; have u2 : W7.cell? ⟨W3.heap.size, 2, none⟩ = some (.slice none 0 0) := cell_of k7 rfl; have uf : W7.frozen? ⟨W3.heap.size, 2, none⟩ = false := warm k7; replace k7 := hid_of k7; replace r1 := hid_of r1; replace r2' := hid_of r2'; clear r2 r3 r4))
  obtain ⟨X, hX⟩ : ∃ X, Hid (W7.setCell ⟨W3.heap.size, 2, none⟩ (.slice (some ⟨g1, 0, none⟩) 1 cc) = X) := ⟨_, rfl⟩
  have hFX : Fr (· = W3.heap.size) W7 X := by rw [← hX.out]; exact (Fr.refl _ W7).set _ _ (.inl rfl)
  have kX := heap_setCell_same W7 W3.heap.size 2 _ _ (.slice (some ⟨g1, 0, none⟩) 1 cc) k7.out
  rw [hX.out] at kX
  have r1' : W7.ownsRow w.heap.size 71 1 (.slice (some ⟨g1, 0, none⟩) 1 cc) 1 [.pointer (some ⟨W4.heap.size, 0, none⟩)] := r1.out
  obtain ⟨-, hx⟩ := r1'
  have hcur : ∃ cur, W7.heap[g1]? = some (.cells cur 71 (0, 0)) ∧ cur[0]? = some (.pointer (some ⟨W4.heap.size, 0, none⟩)) := by
    rcases hx with ⟨hv, -⟩ | ⟨g', cap', cur, hv, hg, hh, -, -, -, hr⟩
    · cases hv
    · cases hv
      refine ⟨cur, hh, ?_⟩
      have := congrArg (fun l => l[0]?) hr
      simpa [List.getElem?_take] using this
  obtain ⟨cur, hcu1, hcu2⟩ := hcur
  have up : ∀ {b : Nat} {vs : Array Value} {t : TypeId}, W6.heap[b]? = some (.cells vs t (0, 0)) → t ≠ 74 → X.heap[b]? = some (.cells vs t (0, 0)) := fun {b vs t} e ht => by
    have e7 := (r2'.out.block _ (Array.getElem?_eq_some_iff.1 e).1 (fun e => by cases e)).trans e
    exact (hFX.block b (Array.getElem?_eq_some_iff.1 e7).1 (ne_of_types e7 k7.out ht)).trans e7
  have hF67 : Fr (fun _ => False) W6 W7 := (Fr.refl _ W6).grown r2'.out (fun g e => by cases e)
  have hws : w.heap.size ≤ W3.heap.size := hws3.out
  have hBX : Below w.heap.size w X := (((Fr.of_below (S := fun _ => False) hb6.out).next hF67 (fun _ h => h.elim)).next hFX (fun i hi => .inr (by have hi' : i = W3.heap.size := hi; rw [hi']; exact hws))).below (Nat.le_refl _) (fun _ h => h.elim)
  have hT : FH (· == 74) lo W6 X := ⟨((Fr.next (S := fun i => w.heap.size ≤ i) (T := (· = W3.heap.size)) (hF67.mono (fun _ h => h.elim)) hFX (fun i hi => .inl (by have hi' : i = W3.heap.size := hi; rw [hi']; exact hws)))).below hbl6.out (fun i hi => Nat.le_trans hlo hi), fun b vs t e ht => up e (by intro h; rw [h] at ht; simp at ht)⟩
  have hfin : Hid (Below w.heap.size w X ∧ LW X W3.heap.size W4.heap.size x ∧ X.heap[W4.heap.size]? = some (.cells clientZ 124 (0, 0)) ∧ KS lo X x ⟨0, none, 0, 0, 0, 0, 0, 0, none, 0, 0⟩ ∧ HeapS lo X x.hb 5 1048576 [] []) := by
    refine ⟨hBX, ⟨g1, cc, cur, kX, (hFX.block g1 (Array.getElem?_eq_some_iff.1 hcu1).1 (ne_of_types hcu1 k7.out (by decide))).trans hcu1, hcu2⟩, up k5.out (by decide), hK6.out.keepW hT, hH6.out.keepW hT⟩
  clear hx hFX kX up hF67 hws hBX hT hcu1 hcu2 r1 r2' k7 u2 uf hK6 hH6 k5 k4 hb6 z6 a2
  go_wp2_with (rw [hX.out])
  rw [rounds_succ]
  go_wp2_with (rw [hX.out])
  go_ret
  exact ⟨hfin.out.1, _, _, x, rfl, hfin.out.2.1, hcb.out, hfin.out.2.2⟩
end Go.Proofs.Ytloeongljbgmnaa
