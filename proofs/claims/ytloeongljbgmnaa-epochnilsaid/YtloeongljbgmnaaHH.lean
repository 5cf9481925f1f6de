import Derived.Test.YtloeongljbgmnaaHG
/-! heap: making a node. -/
namespace Go.Proofs.Ytloeongljbgmnaa
open Go Go.RowKit
theorem mk_if (a : Addr) (w : World) : (Instr.makeInterface 209 (.pointer (some a))).run Try.prog w = .ok (.iface 209 (.pointer (some a))) w := by kernel_rfl
set_option maxRecDepth 100000 in
set_option maxHeartbeats 2000000 in
theorem newcell_any (wb : Nat) (obj num : Int) (w : World) (h : w.cell? ⟨wb, 0, none⟩ = some (.bool false)) :
    Calls Try.prog 81 #[.pointer (some ⟨wb, 0, none⟩), .int .i64 obj, .int .i64 num] w fun e w' => ∃ nb, e = .returned (ifN nb) ∧ w.heap.size ≤ nb ∧ w'.heap[nb]? = some (.cells (nCs obj num 0 false 0) 219 (0, 0)) ∧ Below w.heap.size w w' := by
  have hi := hid_of (isreal_any wb w h)
  have hn := hid_of (nnew_any wb obj num 0 false 0 w h)
  unfold ifN
  go_enter Try.func81, Try.ntmps81
  go_wp2_with fail
  refine hi.out.mono ?_
  rintro e W1 ⟨rfl, hw⟩
  obtain rfl : w = W1 := hw.symm
  clear hi hw h
  go_wp2_with fail
  refine hn.out.mono ?_
  rintro e W2 ⟨nb, rfl, h1, h2, h3⟩
  replace h1 := hid_of h1
  replace h2 := hid_of h2
  replace h3 := hid_of h3
  clear hn
  go_wp2_with fail
  go_ret
  exact ⟨nb, rfl, h1.out, h2.out, h3.out⟩
theorem if_info : ∃ ri, Try.prog.info? 132 = some ri ∧ ri.zero = some .nilIface ∧ ri.size = 1 ∧ ri.bytes = 16 := by
  have : (Try.prog.info? 132).map (fun i => (i.zero, i.size, i.bytes)) = some (some .nilIface, 1, 16) := by kernel_rfl
  cases hq : Try.prog.info? 132 with
  | none => rw [hq] at this; cases this
  | some ri => rw [hq] at this; simp at this; exact ⟨ri, rfl, this.1, this.2.1, this.2.2⟩
theorem cells_u : Try.prog.underlying 168 = some (.slice 132) := by kernel_rfl
theorem rowN_one (N : Nat → Nat) (k : Nat) : ∀ u ∈ rowN N k, u.oneCell' = true := fun u hu => by
  unfold rowN at hu
  obtain ⟨i, -, rfl⟩ := List.mem_map.1 hu
  rfl
theorem rowN_congr {N M : Nat → Nat} {k : Nat} (h : ∀ i, i < k → N i = M i) : rowN N k = rowN M k := by
  unfold rowN
  refine List.map_congr_left (fun i hi => ?_)
  rw [h i (by simpa using hi)]
theorem rowN_succ (N : Nat → Nat) (k : Nat) : rowN N (k + 1) = rowN N k ++ [ifN (N k)] := by simp [rowN, List.range_succ]
/-- A row of cells has grown: all else is as it was. -/
theorem grow_row {lo n : Nat} {w W2 : World} {v : Value} {xs : List Value} {o : Obj} (hrow : w.ownsRow lo 132 1 v n xs) (hlo : lo ≤ w.heap.size) (hg : (w.alloc o).grownBy W2 v.ownBlock) : FT lo w W2 ∧ ∀ (b : Nat) (o : Obj), w.heap[b]? = some o → (∀ cs, o ≠ .cells cs 132 (0, 0)) → W2.heap[b]? = some o := by
  have hB : Below w.heap.size w (w.alloc o) := (Below.refl _ w).alloc (Nat.le_refl _) _
  have hown : ∀ g, v.ownBlock = some g → lo ≤ g ∧ ∃ cs, w.heap[g]? = some (.cells cs 132 (0, 0)) := fun g e => by
    obtain ⟨h1, h2⟩ := hrow
    rcases h2 with ⟨hv, _⟩ | ⟨g', cap', cur, hv, hg', hh, _⟩
    · rw [hv] at e; cases e
    · rw [hv] at e
      cases e
      exact ⟨hg', cur, hh⟩
  have hk : ∀ (b : Nat) (o' : Obj), w.heap[b]? = some o' → (∀ cs, o' ≠ .cells cs 132 (0, 0)) → W2.heap[b]? = some o' := fun b o' hb hne => by
    have hlt := (Array.getElem?_eq_some_iff.1 hb).1
    refine (hg.block b (Nat.lt_of_lt_of_le hlt hB.size) (fun e => ?_)).trans ((hB.block b hlt).trans hb)
    obtain ⟨-, cs', h2⟩ := hown b e.symm
    rw [hb] at h2
    exact hne cs' (Option.some.inj h2)
  refine ⟨⟨(hB.mono hlo).grown hg (Nat.le_trans hlo hB.size) (fun g e => (hown g e).1), fun b o' hb hc => hk b o' hb (fun cs' e => ?_)⟩, hk⟩
  subst e
  cases hc
section
variable {lo : Nat} {w : World} {hb : Nat} {obj most : Int} {ns : List Nd} {c : List Int} {cs : List (List Int)} {p : Pl}
/-- The heap's own block is written over: its next cell. -/
theorem HeapV.setX (h : HeapV lo w hb obj most ns c cs p) (v : Value) : HeapV lo (w.setCell ⟨hb, 5, none⟩ v) hb obj most ns c cs { p with nx := v } ∧ FT lo w (w.setCell ⟨hb, 5, none⟩ v) := by
  obtain ⟨a1, a2, a3, a4, a5, a6⟩ := h.apart
  have hF : Fr (· = hb) w (w.setCell ⟨hb, 5, none⟩ v) := (Fr.refl _ w).set _ _ (.inl rfl)
  have hT : FT lo w (w.setCell ⟨hb, 5, none⟩ v) := FT.of_fr hF h.hbk rfl h.lh
  have kp : ∀ {b : Nat} {o : Obj}, w.heap[b]? = some o → b ≠ hb → (w.setCell ⟨hb, 5, none⟩ v).heap[b]? = some o := fun {b o} e hne => (hF.block b (Array.getElem?_eq_some_iff.1 e).1 hne).trans e
  refine ⟨⟨?_, kp h.wbk a3.symm, kp h.pbk a1.symm, h.pool.keep hT.still, kp h.mbk a2.symm, ?_, fun i x hx => kp (h.nd i x hx) (a6 i (List.getElem?_eq_some_iff.1 hx).1).1, h.inj, h.lh, h.lp, h.ln⟩, hT⟩
  · have := heap_setCell_same w hb 5 _ _ v h.hbk
    exact this
  · refine ownsRow_keep h.row (fun g cs' e => hF.block g (Array.getElem?_eq_some_iff.1 e).1 (fun eg => ?_))
    have := h.hbk
    rw [← eg, e] at this
    cases this
/-- The list of cells is put in the place of another. -/
theorem HeapV.setM (h : HeapV lo w hb obj most ns c cs p) {w1 : World} {mv : Value} {mb nb : Nat} {x : Nd} (hT : FT lo w w1) (hk : ∀ (b : Nat) (o : Obj), w.heap[b]? = some o → (∀ cs, o ≠ .cells cs 132 (0, 0)) → w1.heap[b]? = some o) (hmb : w1.heap[mb]? = some (.cells #[mv] 168 (0, 0)))
    (hrow : w1.ownsRow lo 132 1 mv (ns.length + 1) (rowN p.N ns.length ++ [ifN nb]))
    (hN : w1.heap[nb]? = some (.cells (nCs obj ((ns.length : Int) + 1) x.gen x.live x.val) 219 (0, 0))) (hnb : ∀ i, i < ns.length → p.N i ≠ nb) (hlo : lo ≤ nb) :
    HeapV lo (w1.setCell ⟨hb, 4, none⟩ (.pointer (some ⟨mb, 0, none⟩))) hb obj most (ns ++ [x]) c cs { p with mb := mb, mv := mv, N := fun i => if i = ns.length then nb else p.N i } ∧ FT lo w (w1.setCell ⟨hb, 4, none⟩ (.pointer (some ⟨mb, 0, none⟩))) := by
  obtain ⟨a1, a2, a3, a4, a5, a6⟩ := h.apart
  have k1 : ∀ {b : Nat} {vs : Array Value} {t : TypeId}, w.heap[b]? = some (.cells vs t (0, 0)) → t ≠ 132 → w1.heap[b]? = some (.cells vs t (0, 0)) := fun {b vs t} e ht => hk b _ e (fun cs' e' => by cases e'; exact ht rfl)
  have hF : Fr (· = hb) w1 (w1.setCell ⟨hb, 4, none⟩ (.pointer (some ⟨mb, 0, none⟩))) := (Fr.refl _ w1).set _ _ (.inl rfl)
  have hhb := k1 h.hbk (by decide)
  have hT1 : FT lo w1 (w1.setCell ⟨hb, 4, none⟩ (.pointer (some ⟨mb, 0, none⟩))) := FT.of_fr hF hhb rfl h.lh
  have kp : ∀ {b : Nat} {o : Obj}, w1.heap[b]? = some o → b ≠ hb → (w1.setCell ⟨hb, 4, none⟩ (.pointer (some ⟨mb, 0, none⟩))).heap[b]? = some o := fun {b o} e hne => (hF.block b (Array.getElem?_eq_some_iff.1 e).1 hne).trans e
  have key : ∀ {a b : Nat} {x y : Array Value} {s t : TypeId}, w1.heap[a]? = some (.cells x s (0, 0)) → w1.heap[b]? = some (.cells y t (0, 0)) → s ≠ t → a ≠ b := fun ha hb' hst e => by
    subst e
    rw [ha] at hb'
    cases hb'
    exact hst rfl
  refine ⟨⟨?_, kp (k1 h.wbk (by decide)) a3.symm, kp (k1 h.pbk (by decide)) a1.symm, h.pool.keep (hT.trans hT1).still, kp hmb (key hmb hhb (by decide)), ?_, fun i y hy => ?_, fun i j hi hj hij => ?_, h.lh, h.lp, fun i hi => ?_⟩, hT.trans hT1⟩
  · exact heap_setCell_same w1 hb 4 _ _ _ hhb
  · have e1 : rowN (fun i => if i = ns.length then nb else p.N i) (ns ++ [x]).length = rowN p.N ns.length ++ [ifN nb] := by
      rw [List.length_append]
      show rowN _ (ns.length + 1) = _
      rw [rowN_succ, if_pos rfl, rowN_congr (M := p.N) (fun i hi => if_neg (by omega))]
    rw [e1, List.length_append]
    refine ownsRow_keep hrow (fun g cs' e => hF.block g (Array.getElem?_eq_some_iff.1 e).1 (fun eg => ?_))
    rw [eg] at e
    rw [hhb] at e
    cases e
  · have hi := (List.getElem?_eq_some_iff.1 hy).1
    rw [List.length_append] at hi
    simp only [List.length_cons, List.length_nil, Nat.zero_add] at hi
    by_cases e : i = ns.length
    · subst e
      rw [List.getElem?_append_right (Nat.le_refl _)] at hy
      simp at hy
      subst hy
      show (w1.setCell _ _).heap[if ns.length = ns.length then nb else p.N ns.length]? = _
      rw [if_pos rfl]
      exact kp hN (key hN hhb (by decide))
    · rw [List.getElem?_append_left (by omega)] at hy
      show (w1.setCell _ _).heap[if i = ns.length then nb else p.N i]? = _
      rw [if_neg e]
      exact kp (k1 (h.nd i y hy) (by decide)) (a6 i (by omega)).1
  · rw [List.length_append] at hi hj
    simp only [List.length_cons, List.length_nil, Nat.zero_add] at hi hj
    by_cases e1 : i = ns.length
    · by_cases e2 : j = ns.length
      · omega
      · have hij' : (if i = ns.length then nb else p.N i) = (if j = ns.length then nb else p.N j) := hij
        rw [if_pos e1, if_neg e2] at hij'
        exact absurd hij'.symm (hnb j (by omega))
    · have hij' : (if i = ns.length then nb else p.N i) = (if j = ns.length then nb else p.N j) := hij
      by_cases e2 : j = ns.length
      · rw [if_neg e1, if_pos e2] at hij'
        exact absurd hij' (hnb i (by omega))
      · rw [if_neg e1, if_neg e2] at hij'
        exact h.inj i j (by omega) (by omega) hij'
  · rw [List.length_append] at hi
    simp only [List.length_cons, List.length_nil, Nat.zero_add] at hi
    show lo ≤ if i = ns.length then nb else p.N i
    split
    · exact hlo
    · exact h.ln i (by omega)
set_option maxRecDepth 100000 in
set_option maxHeartbeats 4000000 in
/-- A node's cell is laid behind the others. -/
theorem add_any (h : HeapV lo w hb obj most ns c cs p) (hlo : lo ≤ w.heap.size) (hl : ns.length ≤ 1048576) (nb : Nat) (x : Nd) (hN : w.heap[nb]? = some (.cells (nCs obj ((ns.length : Int) + 1) x.gen x.live x.val) 219 (0, 0))) (hnb : ∀ i, i < ns.length → p.N i ≠ nb) (hln : lo ≤ nb) :
    Calls Try.prog 82 #[.pointer (some ⟨hb, 0, none⟩), .int .i64 ((ns.length : Int) + 1), ifN nb] w fun e w' => e = .returned (.tuple #[]) ∧ FT lo w w' ∧ ∃ p', p'.nx = .nilIface ∧ HeapV lo w' hb obj most (ns ++ [x]) c cs p' := by
  obtain ⟨n, hn⟩ : ∃ n, Hid (ns.length = n) := ⟨_, rfl⟩
  obtain ⟨ri, hri, hri1, hri2, hri3⟩ := if_info
  have hmd := hid_of (made_any h)
  obtain ⟨a, cap, hmv, hc, hm, hg⟩ := ownsRow_form h.row
  have hrow := h.row
  obtain ⟨-, -, -, -, x4, -⟩ := cells6 h.hbk
  have hmb := h.mbk
  rw [hmv] at hmb hrow
  have ha := hid_of (aload_any hb p.mb _ w x4 hmb)
  have y := cell_of (k := 0) hmb rfl
  simp only [List.getElem_toArray, List.getElem_cons_zero] at y
  rw [hn.out] at hmd hc y hrow hl ⊢
  have hlo1 : Hid (lo ≤ (w.alloc (.cells #[ifN nb] 132)).heap.size) := by unfold Hid; rw [World.size_alloc]; omega
  have hone : Hid (∀ u ∈ [ifN nb], u.oneCell' = true) := fun u hu => by simp at hu; subst hu; rfl
  have hm1 : Hid (n + 1 ≤ maxLen) := by unfold Hid maxLen; omega
  have hm2 : Hid ((n + 1) * 16 ≤ 140737488355328) := by unfold Hid; omega
  replace hrow := hid_of hrow
  unfold maxLen at hm
  have hlt : ¬ ((n : Int) + 1 ≤ (n : Int)) := by omega
  replace h := hid_of h
  replace hN := hid_of hN
  replace hnb := hid_of hnb
  clear hg hmb x4 hmv
  unfold ifN at hlo1 hone ⊢
  go_enter Try.func82, Try.ntmps82
  go_wp2_with fail
  refine hmd.out.mono ?_
  rintro e W1 ⟨rfl, hw⟩
  obtain rfl : w = W1 := hw.symm
  clear hmd hw
  go_wp2_with fail
  refine ha.out.mono ?_
  rintro e W1 ⟨rfl, hw⟩
  obtain rfl : w = W1 := hw.symm
  clear ha hw
  go_upto_region 2 with (at_builtin; refine wpList_append_lies _ rfl _ _ 168 rfl lo 132 ri _ 1 16 cells_u hri hri1 hri2 hri3 rfl (by decide) _ n (rowN p.N n) rfl (hrow.out.alloc _) _ 1 1 [.iface 209 (.pointer (some ⟨nb, 0, none⟩))] rfl rfl (World.news_of_block (heap_alloc_new w _)) hone.out (by decide) hm1.out hm2.out hlo1.out _ rfl ?_; intro g1 c1 W2 r1 r2 r3 r4; replace r1 := hid_of r1; replace r2 := hid_of r2; clear r3 r4)
  have r2' : (w.alloc (.cells #[.iface 209 (.pointer (some ⟨nb, 0, none⟩))] 132)).grownBy W2 (Value.slice a n cap).ownBlock := r2.out
  obtain ⟨hT2, hk2⟩ := grow_row hrow.out hlo r2'
  obtain ⟨W3, hW3⟩ : ∃ W3, Hid (W2.alloc (.cells #[.slice (some ⟨g1, 0, none⟩) (n + 1) c1] 168) = W3) := ⟨_, rfl⟩
  have hB23 : Below W2.heap.size W2 W3 := by rw [← hW3.out]; exact (Below.refl _ W2).alloc (Nat.le_refl _) _
  have z3 : W3.heap[W2.heap.size]? = some (.cells #[.slice (some ⟨g1, 0, none⟩) (n + 1) c1] 168 (0, 0)) := by rw [← hW3.out]; exact heap_alloc_new W2 _
  have hT3 : FT lo w W3 := hT2.trans (FT.of_below hB23 (Nat.le_trans hlo hT2.size))
  have hk3 : ∀ (b : Nat) (o : Obj), w.heap[b]? = some o → (∀ cs, o ≠ .cells cs 132 (0, 0)) → W3.heap[b]? = some o := fun b o hb hne => by
    have := hk2 b o hb hne
    exact (hB23.block b (Array.getElem?_eq_some_iff.1 this).1).trans this
  have hrow3 : W3.ownsRow lo 132 1 (.slice (some ⟨g1, 0, none⟩) (n + 1) c1) (n + 1) (rowN p.N n ++ [ifN nb]) := ownsRow_keep r1.out (fun g cs' e => hB23.block g (Array.getElem?_eq_some_iff.1 e).1)
  have hN3 := hk3 nb _ hN.out (fun cs' e => by cases e)
  have hhb3 := hk3 hb _ h.out.hbk (fun cs' e => by cases e)
  have hnn := hn.out
  subst hnn
  obtain ⟨h4, hT4⟩ := h.out.setM hT3 hk3 z3 hrow3 hN3 hnb.out hln
  have hst := hid_of (astore_any hb W2.heap.size _ _ W3 (cell_of (k := 4) hhb3 rfl) (warm hhb3) (cell_of (k := 0) z3 rfl))
  obtain ⟨W4, hW4⟩ : ∃ W4, Hid (W3.setCell ⟨hb, 4, none⟩ (.pointer (some ⟨W2.heap.size, 0, none⟩)) = W4) := ⟨_, rfl⟩
  rw [hW4.out] at h4 hT4 hst
  obtain ⟨h5, hT5⟩ := h4.setX .nilIface
  obtain ⟨W5, hW5⟩ : ∃ W5, Hid (W4.setCell ⟨hb, 5, none⟩ .nilIface = W5) := ⟨_, rfl⟩
  rw [hW5.out] at h5 hT5
  have c5 : W4.cell? ⟨hb, 5, none⟩ = some p.nx := (cells6 h4.hbk).2.2.2.2.2
  have f5 : W4.frozen? ⟨hb, 5, none⟩ = false := warm h4.hbk
  have hfin : Hid (FT lo w W5 ∧ ∃ p', p'.nx = .nilIface ∧ HeapV lo W5 hb obj most (ns ++ [x]) c cs p') := ⟨hT4.trans hT5, _, rfl, h5⟩
  clear h5 hT5 h4 hT4 hhb3 hN3 hrow3 hk3 hT3 z3 hB23 hk2 hT2 r2' r1 r2 h hN hnb hrow y hn hW4
  go_wp2_with (rw [hW3.out])
  refine hst.out.mono ?_
  rintro e Z ⟨rfl, hw⟩
  obtain rfl : W4 = Z := hw.symm
  clear hst hw hW3
  go_wp2_with (rw [hW5.out])
  exact bodyPost_end (results_none rfl _ _ _) rfl ⟨rfl, hfin.out⟩
end
end Go.Proofs.Ytloeongljbgmnaa
