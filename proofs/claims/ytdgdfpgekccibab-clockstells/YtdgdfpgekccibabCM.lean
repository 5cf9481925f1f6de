import Derived.Test.YtdgdfpgekccibabCL
/-! clocks: Before. -/
namespace Go.Proofs.Ytdgdfpgekccibab
open Go Go.RowKit Go.Shelf
attribute [local go_sem] Oper.semAt_some
theorem clkAt_take (evs : List Ev) {k m : Nat} (h : k < m) : clkAt (evs.take m) k = clkAt evs k := by
  unfold clkAt
  rw [List.getElem?_take_of_lt h, List.take_take, Nat.min_eq_left (by omega)]
/-- Is event i ahead of event j, by their clocks? -/
def beforeB (evs : List Ev) (clients i j : Int) : Bool := decide (0 ≤ i) && decide (i < j) && decide (j < evs.length) && decide (chk evs clients = 0) && withinC (clkAt evs i.toNat) (clkAt evs j.toNat)
theorem EvsAt.take {w : World} {a : Option Addr} {l : List Ev} (h : EvsAt w a l) (m : Nat) : EvsAt w a (l.take m) := fun j e he => by
  have hj : j < m := by
    have := (List.getElem?_eq_some_iff.1 he).1
    simp at this
    omega
  rw [List.getElem?_take_of_lt hj] at he
  exact h j e he
/-- Under way: k events have come; the i-th clock lies in bf once it has come, the last one in bl. -/
structure BfI (w0 : World) (bi bf bl i : Nat) (evs : List Ev) (k : Nat) (S : Nat → Prop) (W : World) : Prop where
  ibox : W.heap[bi]? = some (.cells #[.int .i64 (i : Int)] 3 (0, 0))
  fst : ∃ cs : Array Value, W.heap[bf]? = some (.cells cs 49 (0, 0)) ∧ cs.size = 16 ∧ (i < k → cs = (ck (clkAt evs i)).toArray)
  lst : ∃ cs : Array Value, W.heap[bl]? = some (.cells cs 49 (0, 0)) ∧ cs.size = 16 ∧ (0 < k → cs = (ck (clkAt evs (k - 1))).toArray)
  nS : ¬ S bi ∧ ¬ S bf ∧ ¬ S bl
  low : ∀ b, S b → w0.heap.size ≤ b
  bel : Below w0.heap.size w0 W
theorem BfI.keep {w0 : World} {bi bf bl i : Nat} {evs : List Ev} {k : Nat} {S S' : Nat → Prop} {W W' : World} (h : BfI w0 bi bf bl i evs k S W) (h1 : W'.heap[bi]? = W.heap[bi]?) (h2 : W'.heap[bf]? = W.heap[bf]?) (h3 : W'.heap[bl]? = W.heap[bl]?) (hS : ¬ S' bi ∧ ¬ S' bf ∧ ¬ S' bl) (hl : ∀ b, S' b → w0.heap.size ≤ b) (hb : Below w0.heap.size w0 W') : BfI w0 bi bf bl i evs k S' W' := by
  obtain ⟨c1, e1, e2, e3⟩ := h.fst
  obtain ⟨c2, d1, d2, d3⟩ := h.lst
  exact ⟨h1.trans h.ibox, ⟨c1, h2.trans e1, e2, e3⟩, ⟨c2, h3.trans d1, d2, d3⟩, hS, hl, hb⟩
theorem BfI.lts {w0 : World} {bi bf bl i : Nat} {evs : List Ev} {k : Nat} {S : Nat → Prop} {W : World} (h : BfI w0 bi bf bl i evs k S W) : bi < W.heap.size ∧ bf < W.heap.size ∧ bl < W.heap.size := by
  obtain ⟨c1, e1, e2, e3⟩ := h.fst
  obtain ⟨c2, d1, d2, d3⟩ := h.lst
  exact ⟨(Array.getElem?_eq_some_iff.1 h.ibox).1, (Array.getElem?_eq_some_iff.1 e1).1, (Array.getElem?_eq_some_iff.1 d1).1⟩
theorem BfI.abid (w0 : World) (bi bf bl i : Nat) (evs : List Ev) : Abid (fun k S W => BfI w0 bi bf bl i evs k S W) := fun k S S' W W' h hf hS => by
  obtain ⟨l1, l2, l3⟩ := h.lts
  have hno : ∀ b, b < W.heap.size → ¬ S b → ¬ S' b := fun b hb hn e => by
    rcases hS b e with e | e
    · exact hn e
    · omega
  refine h.keep (hf.block _ l1 h.nS.1) (hf.block _ l2 h.nS.2.1) (hf.block _ l3 h.nS.2.2) ⟨hno _ l1 h.nS.1, hno _ l2 h.nS.2.1, hno _ l3 h.nS.2.2⟩ (fun b hb => ?_) (h.bel.trans (hf.below h.bel.size h.low))
  rcases hS b hb with e | e
  · exact h.low b e
  · have := h.bel.size; omega
theorem below_setRow {B : Nat} {x w : World} (h : Below B x w) {g : Nat} (hg : B ≤ g) (cs : Array Value) : Below B x (w.setRow g cs) := h.trans ⟨rfl, rfl, rfl, by rw [size_setRow]; exact Nat.le_refl _, fun k hk => setRow_other w g k cs (by omega)⟩
theorem BfI.next {w0 : World} {bi bf bl i : Nat} {evs : List Ev} {k : Nat} {S : Nat → Prop} {W X : World} (h : BfI w0 bi bf bl i evs k S W) (h1 : bi ≠ bf) (h2 : bi ≠ bl) (h3 : bf ≠ bl) (hl1 : w0.heap.size ≤ bf) (hl2 : w0.heap.size ≤ bl)
    (hX : (k = i ∧ X = W.setRow bf (ck (clkAt evs k)).toArray) ∨ (k ≠ i ∧ X = W)) : BfI w0 bi bf bl i evs (k + 1) S (X.setRow bl (ck (clkAt evs k)).toArray) ∧ (∀ b, b ≠ bf → b ≠ bl → (X.setRow bl (ck (clkAt evs k)).toArray).heap[b]? = W.heap[b]?) ∧ (X.setRow bl (ck (clkAt evs k)).toArray).heap.size = W.heap.size := by
  obtain ⟨c1, e1, e2, e3⟩ := h.fst
  obtain ⟨c2, d1, d2, d3⟩ := h.lst
  rcases hX with ⟨rfl, rfl⟩ | ⟨hne, rfl⟩
  · have f1 : (W.setRow bf (ck (clkAt evs k)).toArray).heap[bf]? = some (.cells (ck (clkAt evs k)).toArray 49 (0, 0)) := setRow_heap _ _ _ _ _ _ e1
    have f2 : (W.setRow bf (ck (clkAt evs k)).toArray).heap[bl]? = some (.cells c2 49 (0, 0)) := (setRow_other _ _ _ _ h3.symm).trans d1
    refine ⟨⟨?_, ⟨_, (setRow_other _ _ _ _ h3).trans f1, by simp [ck_len], fun _ => rfl⟩, ⟨_, setRow_heap _ _ _ _ _ _ f2, by simp [ck_len], fun _ => rfl⟩, h.nS, h.low, below_setRow (below_setRow h.bel hl1 _) hl2 _⟩, fun b hb1 hb2 => ?_, by simp⟩
    · rw [setRow_other _ _ _ _ h2, setRow_other _ _ _ _ h1]; exact h.ibox
    · rw [setRow_other _ _ _ _ hb2, setRow_other _ _ _ _ hb1]
  · refine ⟨⟨?_, ⟨c1, (setRow_other _ _ _ _ h3).trans e1, e2, fun hh => e3 (by omega)⟩, ⟨_, setRow_heap _ _ _ _ _ _ d1, by simp [ck_len], fun _ => rfl⟩, h.nS, h.low, below_setRow h.bel hl2 _⟩, fun b hb1 hb2 => ?_, by simp⟩
    · rw [setRow_other _ _ _ _ h2]; exact h.ibox
    · rw [setRow_other _ _ _ _ hb2]
set_option maxHeartbeats 2000000 in
set_option maxRecDepth 100000 in
theorem before_any (a : Option Addr) (cap : Nat) (evs : List Ev) (clients i j : Int) (w : World) (hE : EvsAt w a evs) (hcap : evs.length ≤ cap) (hcm : cap ≤ 9223372036854775807) (hwf : ∀ e ∈ evs, I64 e.o ∧ I64 e.n) :
    Calls Try.prog 6 #[.slice a evs.length cap, .int .i64 clients, .int .i64 i, .int .i64 j] w fun e w' => e = .returned (.bool (beforeB evs clients i j)) ∧ Below w.heap.size w w' := by
  have hF0 : Below w.heap.size w (w.alloc (.cells #[.int .i64 i] 3)) := (Below.refl _ w).alloc (Nat.le_refl _) _
  have z0 := heap_alloc_new w (.cells #[.int .i64 i] 3)
  have hck := hid_of (check_any a cap evs clients (w.alloc (.cells #[.int .i64 i] 3)) (hE.keep hF0) (by omega))
  obtain ⟨v, hv⟩ : ∃ v, Hid (beforeB evs clients i j = v) := ⟨_, rfl⟩
  rw [hv.out]
  refine (callsIn_wide (n := 9)).1 ?_
  refine callsIn_of_wp_marks Try.func6 rfl trivial ?_ rfl
  simp only [Try.ntmps6, List.size_toArray, List.length_cons, List.length_nil, Nat.reduceAdd, Nat.reduceSub, Array.replicate_succ, Array.replicate_zero, List.push_toArray, List.append_toArray, List.nil_append, List.cons_append]
  refine wpIn_wide.2 ?_
  by_cases h1 : i < 0
  · obtain rfl : false = v := by rw [← hv.out]; unfold beforeB; simp; omega
    go_wp2_with fail
    exact ⟨.bool false, by simp [results, Try.results6, go_sem], rfl, hF0⟩
  by_cases h2 : j ≤ i
  · obtain rfl : false = v := by rw [← hv.out]; unfold beforeB; simp; omega
    go_wp2_with fail
    exact ⟨.bool false, by simp [results, Try.results6, go_sem], rfl, hF0⟩
  by_cases h3 : (evs.length : Int) ≤ j
  · obtain rfl : false = v := by rw [← hv.out]; unfold beforeB; simp; omega
    go_wp2_with fail
    exact ⟨.bool false, by simp [results, Try.results6, go_sem], rfl, hF0⟩
  go_wp2_with fail
  generalize w.alloc (.cells #[.int .i64 i] 3) = W0 at hF0 z0 hck ⊢
  refine hck.out.mono ?_
  rintro e W1 ⟨rfl, hB1⟩
  clear hck
  have z1 := (hB1.block _ (Array.getElem?_eq_some_iff.1 z0).1).trans z0
  replace hB1 := hF0.trans (hB1.mono hF0.size)
  by_cases h0 : chk evs clients = 0
  · obtain ⟨c1, c2, c3, c4⟩ := chk_ok h0
    obtain ⟨i, rfl⟩ := Int.eq_ofNat_of_zero_le (a := i) (by omega)
    obtain ⟨j, rfl⟩ := Int.eq_ofNat_of_zero_le (a := j) (by omega)
    obtain rfl : withinC (clkAt evs i) (clkAt evs j) = v := by
      rw [← hv.out]
      unfold beforeB
      simp [h0]
      intro h
      omega
    clear hv
    obtain ⟨b, o, rfl, hb, -⟩ := hE j _ (List.getElem?_eq_getElem (by omega))
    obtain ⟨p, hp⟩ : ∃ p, Hid (evs.take (j + 1) = p) := ⟨_, rfl⟩
    have hpl : Hid (p.length = j + 1) := by unfold Hid; rw [← hp.out, List.length_take]; omega
    obtain ⟨X3, hX3⟩ : ∃ X3, Hid ((W1.alloc (.cells zeros16 49)).alloc (.cells zeros16 49) = X3) := ⟨_, rfl⟩
    have hB3 : Below W1.heap.size W1 X3 := by rw [← hX3.out]; exact ((Below.refl _ W1).alloc (Nat.le_refl _) _).alloc (by simp) _
    have g3 : X3.heap[W1.heap.size + 1]? = some (.cells zeros16 49 (0, 0)) := by rw [← hX3.out]; exact heap_alloc2_new W1 _ _
    have f3 : X3.heap[W1.heap.size]? = some (.cells zeros16 49 (0, 0)) := by rw [← hX3.out]; exact heap_alloc2_old W1 _ _
    have s3 : X3.heap.size = W1.heap.size + 2 := by rw [← hX3.out]; simp
    have hof := hid_of (of_any (some ⟨b, o, none⟩) (j + 1) cap X3)
    obtain ⟨X4, hX4⟩ : ∃ X4, Hid (X3.alloc (.cells #[.slice (some ⟨b, o, none⟩) (j + 1) cap] 22) = X4) := ⟨_, rfl⟩
    have hB4 : Below X3.heap.size X3 X4 := by rw [← hX4.out]; exact (Below.refl _ X3).alloc (Nat.le_refl _) _
    have g4 : X4.heap[X3.heap.size]? = some (.cells #[.slice (some ⟨b, o, none⟩) (j + 1) cap] 22 (0, 0)) := by rw [← hX4.out]; exact heap_alloc_new X3 _
    have s4 : X4.heap.size = W1.heap.size + 3 := by rw [← hX4.out]; simp [s3]
    rw [hX4.out] at hof
    have hB14 : Below W1.heap.size W1 X4 := hB3.trans (hB4.mono (by omega))
    have hlw := hB1.size
    have hz1 := (Array.getElem?_eq_some_iff.1 z1).1
    have hI0 : BfI w w.heap.size W1.heap.size (W1.heap.size + 1) i p 0 (fun _ => False) X4 := ⟨(hB14.block _ hz1).trans z1, ⟨zeros16, (hB4.block _ (by omega)).trans f3, rfl, (fun h => by omega)⟩, ⟨zeros16, (hB4.block _ (by omega)).trans g3, rfl, (fun h => by omega)⟩, ⟨fun e => e, fun e => e, fun e => e⟩, (fun b e => e.elim), hB1.trans (hB14.mono hlw)⟩
    have hE4 := (hE.keep (hB1.trans (hB14.mono hlw))).take (j + 1)
    rw [hp.out] at hE4
    have hbx : X4.cell? ⟨X3.heap.size, 0, none⟩ = some (.slice (some ⟨b, o, none⟩) p.length cap) := by simp [World.cell?, g4, hpl.out]
    have hsub : ∀ e ∈ p, e ∈ evs := fun e he => by rw [← hp.out] at he; exact List.mem_of_mem_take he
    have hci : clkAt p i = clkAt evs i := by rw [← hp.out]; exact clkAt_take evs (by omega)
    have hcj : clkAt p (p.length - 1) = clkAt evs j := by rw [hpl.out, ← hp.out]; exact clkAt_take evs (by omega)
    replace hsub := hid_of hsub
    replace hci := hid_of hci
    replace hcj := hid_of hcj
    replace hI0 := hid_of hI0
    replace hE4 := hid_of hE4
    replace hbx := hid_of hbx
    replace hwf := hid_of hwf
    replace c4 := hid_of c4
    replace hB1 := hid_of hB1
    replace s4 := hid_of s4
    replace s3 := hid_of s3
    replace hE := hid_of hE
    rw [h0]
    unfold zeros16 at hX3
    clear g3 f3 g4 hB3 hB4 hB14 z1 hX4 hF0 z0
    go_wp2_with (rw [hX3.out])
    refine hof.out.mono ?_
    rintro e w' ⟨rfl, hw'⟩
    obtain rfl : X4 = w' := hw'.symm
    clear hof hX3 hw'
    go_wp2_with fail
    refine rf_now (n := 9) (p1 := 37) (p2 := 38) (s1 := 11) (s2 := 12) (bE := X3.heap.size) (cap := cap) (a := some ⟨b, o, none⟩) (evs := p) rfl hE4.out hbx.out (by rw [hpl.out]; omega) (fun e he => ok16 (c4.out e (hsub.out e he)) (by omega)) (fun e he => hwf.out e (hsub.out e he)) (by rw [hpl.out]; omega)
      (fun k S W => BfI w w.heap.size W1.heap.size (W1.heap.size + 1) i p k S W) (BfI.abid _ _ _ _ _ _) ?io hI0.out ?assign ?body ?done
    case io =>
      intro k S W o h
      have h4 := s4.out
      exact h.keep (World.putObj_heap_other (by omega)) (World.putObj_heap_other (by omega)) (World.putObj_heap_other (by omega)) h.nS h.low (h.bel.trans ((Below.refl _ W).grown (grownBy_putObj' W _ o) h.bel.size (fun k e => by cases e; omega)))
    case assign =>
      intro k W K hK
      obtain ⟨h3, hb, hn, s1, o1⟩ := store_new (clkAt p k) W
      have hK' := hid_of (hK _ hb hn)
      unfold nowAct at hK'
      unfold zeros16 at h3 s1 hK'
      clear hK hb hn
      simp only [List.setIfInBounds_toArray, List.set_cons_succ, List.set_cons_zero] at hK' ⊢
      gi_wp2_with (refine wpListIn_store_row rfl 49 _ _ rfl W.heap.size _ rfl rfl _ _ h3 (by rw [clk_i]; simp [ck_len]) s1 o1 ?_)
      exact hK'.out
    case body =>
      intro k S bn W hI hbn1 hbn2 hlt hEv hSl hS1 hS2 hlW
      unfold nowAct
      simp only [List.setIfInBounds_toArray, List.set_cons_succ, List.set_cons_zero]
      have y0 : W.cell? ⟨w.heap.size, 0, none⟩ = some (.int .i64 (i : Int)) := by simp [World.cell?, hI.ibox]
      obtain ⟨c1', e1, e2, e3⟩ := hI.fst
      obtain ⟨c2', d1, d2, d3⟩ := hI.lst
      have r0 := (grid_one hbn2).range (c := 0) (by decide)
      rw [Nat.zero_mul] at r0
      have o1 := all_oneCell_toArray (ck_one (clkAt p k))
      have h4 := s4.out
      have sz1 : c1'.size = (ck (clkAt p k)).toArray.size := by rw [e2]; simp [ck_len]
      have sz2 : c2'.size = (ck (clkAt p k)).toArray.size := by rw [d2]; simp [ck_len]
      have hnb : bn ≠ W1.heap.size := by omega
      have hfin : ∀ X : World, ((k = i ∧ X = W.setRow W1.heap.size (ck (clkAt p k)).toArray) ∨ (k ≠ i ∧ X = W)) → ∀ a'', rPost (fun k S W => BfI w w.heap.size W1.heap.size (W1.heap.size + 1) i p k S W) X4.heap.size (some ⟨b, o, none⟩) p k S W .normal a'' (X.setRow (W1.heap.size + 1) (ck (clkAt p k)).toArray) := fun X hX a'' => by
        obtain ⟨q1, q2, q3⟩ := hI.next (by omega) (by omega) (by omega) (by omega) (by omega) hX
        refine ⟨rfl, q1, fun b' hb' => q2 b' ?_ ?_, by rw [q3]; exact Nat.le_refl _, hEv.block (by rw [q3]; exact Nat.le_refl _) (fun p hp _ => q2 _ ?_ ?_)⟩
        · rcases hb' with hb' | hb' | hb'
          · exact fun e => hI.nS.2.1 (e ▸ hb')
          · omega
          · omega
        · rcases hb' with hb' | hb' | hb'
          · exact fun e => hI.nS.2.2 (e ▸ hb')
          · omega
          · omega
        · cases hp
          show b ≠ _
          omega
        · cases hp
          show b ≠ _
          omega
      replace hfin := hid_of hfin
      by_cases hki : k = i
      · have hkb : ((k : Int) == (i : Int)) = true := by simp [hki]
        obtain ⟨Y1, hY1⟩ : ∃ Y1, Hid (W.setRow W1.heap.size (ck (clkAt p k)).toArray = Y1) := ⟨_, rfl⟩
        have b1 : Y1.heap[bn]? = some (.cells (ck (clkAt p k)).toArray 49 (0, 0)) := by rw [← hY1.out, setRow_other _ _ _ _ hnb]; exact hbn2
        have r1 := (grid_one b1).range (c := 0) (by decide)
        rw [Nat.zero_mul] at r1
        have d1' : Y1.heap[W1.heap.size + 1]? = some (.cells c2' 49 (0, 0)) := by rw [← hY1.out, setRow_other _ _ _ _ (by omega)]; exact d1
        replace hki := hid_of hki
        clear hI hEv d1 b1 hbn2
        gi_wp2_with (first | rw [hY1.out] | (refine wpListIn_load_mid rfl 49 _ rfl bn 0 rfl (ck (clkAt p k)) _ r0 clk_u rfl (by rw [clk_i, ck_len]) ?_) | (refine wpListIn_load_mid rfl 49 _ rfl bn 0 rfl (ck (clkAt p k)) _ r1 clk_u rfl (by rw [clk_i, ck_len]) ?_) | (refine wpListIn_store_row rfl 49 _ _ rfl W1.heap.size _ rfl rfl _ _ e1 (by rw [clk_i]; simp [ck_len]) sz1 o1 ?_) | (refine wpListIn_store_row rfl 49 _ _ rfl (W1.heap.size + 1) _ rfl rfl _ _ d1' (by rw [clk_i]; simp [ck_len]) sz2 o1 ?_))
        exact hfin.out Y1 (.inl ⟨hki.out, hY1.out.symm⟩) _
      · have hkb : ((k : Int) == (i : Int)) = false := by simp; omega
        replace hki := hid_of hki
        clear hI hEv e1 hbn2
        gi_wp2_with (first | (refine wpListIn_load_mid rfl 49 _ rfl bn 0 rfl (ck (clkAt p k)) _ r0 clk_u rfl (by rw [clk_i, ck_len]) ?_) | (refine wpListIn_store_row rfl 49 _ _ rfl (W1.heap.size + 1) _ rfl rfl _ _ d1 (by rw [clk_i]; simp [ck_len]) sz2 o1 ?_))
        exact hfin.out W (.inr ⟨hki.out, rfl⟩) _
    case done =>
      intro S W hI hD
      obtain ⟨c1', e1, e2, e3⟩ := hI.fst
      obtain ⟨c2', d1, d2, d3⟩ := hI.lst
      obtain rfl := e3 (by rw [hpl.out]; omega)
      obtain rfl := d3 (by rw [hpl.out]; omega)
      rw [hci.out] at e1
      rw [hcj.out] at d1
      have hbel := hid_of hI.bel
      have hw := hid_of (within_any (clkAt evs i) (clkAt evs j) W)
      clear hI e2 e3 d2 d3
      go_wp2_with (first | (refine wpList_load_row rfl 49 _ rfl W1.heap.size rfl _ _ _ _ e1 clk_u rfl (by rw [clk_i]; simp [ck_len]) ?_) | (refine wpList_load_row rfl 49 _ rfl (W1.heap.size + 1) rfl _ _ _ _ d1 clk_u rfl (by rw [clk_i]; simp [ck_len]) ?_))
      refine hw.out.mono ?_
      rintro e W2 ⟨rfl, hb2⟩
      have hD2 := (hb2.block _ (Array.getElem?_eq_some_iff.1 hD).1).trans hD
      have hbe := hbel.out.trans (hb2.mono hbel.out.size)
      clear e1 d1 hw
      go_wp2_with fail
      refine ⟨by simp, .inl ⟨_, _, rfl, run_takeDeferred hD2, ?_⟩⟩
      exact ⟨.bool (withinC (clkAt evs i) (clkAt evs j)), by simp [results, Try.results6, go_sem], rfl, hbe.trans ((Below.refl _ W2).grown (grownBy_putObj' W2 _ _) hbe.size (fun k e => by have h4 := s4.out; cases e; omega))⟩
  · have hne : (chk evs clients != 0) = true := by simp [h0]
    obtain rfl : false = v := by rw [← hv.out]; unfold beforeB; simp [h0]
    go_wp2_with fail
    exact ⟨.bool false, by simp [results, Try.results6, go_sem], rfl, hB1⟩
end Go.Proofs.Ytdgdfpgekccibab
