import Derived.Test.YtdgdfpgekccibabCU
/-! clocks: Races. -/
namespace Go.Proofs.Ytdgdfpgekccibab
open Go Go.RowKit Go.Shelf
attribute [local go_sem] Oper.semAt_some
theorem wpListIn_append_lies {F : Fence} {nF : Nat} {P : Program} {ops : Array Oper} {rest : List Oper} {o : Oper} {a : Act} {w : World} {Q : Exit → Act → World → Prop} (hgd : o.guard = none) (s x : Operand) (t : TypeId)
    (ho : o.op = .call { callee := .builtin .append, args := #[s, x], argTypes := #[t, t] })
    (base : Nat) (e : TypeId) (i : TypeInfo) (z : Value) (size bytes : Nat) (ht : P.underlying t = some (.slice e)) (hi : P.info? e = some i) (hz : i.zero = some z)
    (hsize : i.size = size) (hby : i.bytes = bytes) (hzs : z.cells.size = size) (hsz : 0 < size)
    (v : Value) (n : Nat) (xs : List Value) (hs : a.eval s = v) (hown : w.ownsRow base e size v n xs)
    (ad : Addr) (m c : Nat) (news : List Value) (hx : a.eval x = .slice (some ad) m c) (hl : news.length = m * size) (hnews : ∀ j u, news[j]? = some u → w.cell? (ad.add j) = some u) (h1 : ∀ u ∈ news, u.oneCell' = true)
    (hm : 0 < m) (h63 : n + m ≤ maxLen) (hbytes : (n + m) * bytes ≤ 140737488355328) (hbase : base ≤ w.heap.size) (H : Nat) (hH : w.heap.size = H)
    (h : ∀ g cap w', w'.ownsRow base e size (.slice (some ⟨g, 0, none⟩) (n + m) cap) (n + m) (xs ++ news) → w.grownBy w' v.ownBlock → (v.ownBlock = some g ∨ g = H) → g < w'.heap.size → wpListIn F nF P ops Q rest (a.put o.dst (.slice (some ⟨g, 0, none⟩) (n + m) cap)) w') : wpListIn F nF P ops Q (o :: rest) a w := by
  refine wpListIn_plain hgd fun K' hK' => ?_
  obtain ⟨g, cap, w', hrun, r1, r2, r3, r4⟩ := run_append_lies (P := P) w t o.type base e i z size bytes ht hi hz hsize hby hzs hsz v n xs hown ad m c news hl hnews h1 hm h63 hbytes hbase H hH
  unfold Oper.wpIn
  refine ⟨?_, ?_⟩
  · simp [Oper.about, ho, resolve, Target.leads, Sem.run_pure]
  · rw [Oper.semAt_plain F _ _ (by rw [ho]; intro c hc'; cases hc')]
    simp [execOp, ho, resolve, invoke, builtin, hs, hx, hrun, Result.andThen]
    exact hK' _ _ (h g cap w' r1 r2 r3 r4)
theorem race_i : (Try.prog.info? 75).map (fun i => (i.zero, i.size, i.bytes)) = some (some (.agg #[.int .i64 0, .int .i64 0]), 2, 16) := by kernel_rfl
/-- What Races answers. -/
def RacesPost (w : World) (evs : List Ev) (clients : Int) (e : Ending) (w' : World) : Prop :=
  Below w.heap.size w w' ∧ ((chk evs clients ≠ 0 ∧ e = .returned (.tuple #[.slice none 0 0, .int .i64 (chk evs clients)])) ∨ (chk evs clients = 0 ∧ ∃ ov, e = .returned (.tuple #[ov, .int .i64 0]) ∧ w'.ownsRow w.heap.size 75 2 ov (raceK evs evs.length).length (flatR (raceK evs evs.length))))
/-- The invariant of the loop. -/
def RcJ (w0 : World) (B b2 bo b8 b9 mb cap : Nat) (a : Option Addr) (evs : List Ev) (k : Nat) (S : Nat → Prop) (W : World) : Prop := ∃ m f FP ov, RcI w0 B b2 bo b8 b9 mb cap a evs k (usK evs k) (raceK evs k) S W m f FP ov
theorem RcJ.abid (w0 : World) (B b2 bo b8 b9 mb cap : Nat) (a : Option Addr) (evs : List Ev) : Abid (RcJ w0 B b2 bo b8 b9 mb cap a evs) := fun k S S' W W' h hf hS => by
  obtain ⟨m, f, FP, ov, h⟩ := h
  refine ⟨m, f, FP, ov, h.keep hf.size (fun b hb => hf.block b (h.lt hb) (h.nSo hb)) (fun b hb hn e => ?_) (fun b hb => ?_) (h.bel.trans (hf.below h.bel.size h.low))⟩
  · rcases hS b e with e | e
    · exact hn e
    · have := h.lt hb; omega
  · rcases hS b hb with e | e
    · exact h.low b e
    · have := h.bel.size; omega
theorem RcJ.put {w0 : World} {B b2 bo b8 b9 mb cap : Nat} {a : Option Addr} {evs : List Ev} {k : Nat} {S : Nat → Prop} {W : World} (h : RcJ w0 B b2 bo b8 b9 mb cap a evs k S W) {l : Nat} (hl : B ≤ l ∧ l ≤ B + 1) (hw0 : w0.heap.size ≤ B) (hfx : b2 < B ∧ bo < B ∧ b8 < B ∧ b9 < B ∧ mb < B) (o : Obj) : RcJ w0 B b2 bo b8 b9 mb cap a evs k S (W.putObj l o) := by
  obtain ⟨m, f, FP, ov, h⟩ := h
  refine ⟨m, f, FP, ov, h.keep (by simp) (fun b hb => World.putObj_heap_other (fun e => ?_)) (fun _ _ e => e) h.low (h.bel.trans ((Below.refl _ W).grown (grownBy_putObj' W _ o) h.bel.size (fun k e => by cases e; omega)))⟩
  rcases hb with rfl | rfl | rfl | rfl | rfl | hb | ⟨o, n, h1, h2⟩
  · omega
  · omega
  · omega
  · omega
  · omega
  · have := (h.ovB _ hb).1; omega
  · have := (h.fpB _ _ _ h1 h2).1; omega
theorem RcI.next {w0 : World} {B b2 bo b8 b9 mb cap : Nat} {a : Option Addr} {evs : List Ev} {k : Nat} {us : AllU} {R : List (Nat × Nat)} {S : Nat → Prop} {W : World} {m : Nat} {f : Where} {FP : Int → Int → Nat → Prop} {ov : Value} (h : RcI w0 B b2 bo b8 b9 mb cap a evs k us R S W m f FP ov) : RcI w0 B b2 bo b8 b9 mb cap a evs (k + 1) us R S W m f FP ov :=
  ⟨h.ev, h.out, h.ks, h.mp, h.th, by have := h.mle; omega, h.rows, h.ovB, h.cells, h.no, h.fpB, h.fpD, h.nS, h.low, h.bel⟩
theorem raceK_len (evs : List Ev) : (k : Nat) → (raceK evs k).length ≤ k
  | 0 => Nat.le_refl _
  | k + 1 => by
    have := raceK_len evs k
    unfold raceK
    split
    · simp; omega
    · omega
theorem kinds_fn {kd : Nat} (h : 1 ≤ kd ∧ kd ≤ 7) : ∃ g, kindsA[kd * 3]? = some (.func (.func g) #[] #[]) ∧ kindsA[kd * 3 + 1]? = some (.bool false) ∧ kindsA[kd * 3 + 2]? = some (.bool false) := by
  obtain ⟨g, h1, h2, h3, _⟩ := kinds_pass h
  exact ⟨g, h1, h2, h3⟩
set_option maxHeartbeats 4000000 in
set_option maxRecDepth 100000 in
theorem races_any (a : Option Addr) (cap : Nat) (evs : List Ev) (clients : Int) (w : World) (hE : EvsAt w a evs) (hcap : evs.length ≤ cap) (hcm : cap ≤ 9223372036854775807) (hwf : ∀ e ∈ evs, I64 e.o ∧ I64 e.n) :
    Calls Try.prog 16 #[.slice a evs.length cap, .int .i64 clients] w (RacesPost w evs clients) := by
  have hF0 : Below w.heap.size w (w.alloc (.cells #[.slice a evs.length cap] 22)) := (Below.refl _ w).alloc (Nat.le_refl _) _
  have z0 := heap_alloc_new w (.cells #[.slice a evs.length cap] 22)
  have hck := hid_of (check_any a cap evs clients (w.alloc (.cells #[.slice a evs.length cap] 22)) (hE.keep hF0) (by omega))
  refine (callsIn_wide (n := 9)).1 ?_
  refine callsIn_of_wp_marks Try.func16 rfl trivial ?_ rfl
  simp only [Try.ntmps16, List.size_toArray, List.length_cons, List.length_nil, Nat.reduceAdd, Nat.reduceSub, Array.replicate_succ, Array.replicate_zero, List.push_toArray, List.append_toArray, List.nil_append, List.cons_append]
  refine wpIn_wide.2 ?_
  go_wp2_with fail
  generalize w.alloc (.cells #[.slice a evs.length cap] 22) = W0 at hF0 z0 hck ⊢
  refine hck.out.mono ?_
  rintro e W1 ⟨rfl, hB1⟩
  have z1 := (hB1.block _ (Array.getElem?_eq_some_iff.1 z0).1).trans z0
  replace hB1 := hF0.trans (hB1.mono hF0.size)
  clear hck z0 hF0
  by_cases h0 : chk evs clients = 0
  · obtain ⟨c1, c2, c3, c4⟩ := chk_ok h0
    rw [h0]
    have hmm := @run_makeMap Try.prog
    obtain ⟨X1, hX1⟩ : ∃ X1, Hid (W1.alloc (.cells #[.slice none 0 0] 41) = X1) := ⟨_, rfl⟩
    have hB2 : Below W1.heap.size W1 X1 := by rw [← hX1.out]; exact (Below.refl _ W1).alloc (Nat.le_refl _) _
    have o1 : X1.heap[W1.heap.size]? = some (.cells #[.slice none 0 0] 41 (0, 0)) := by rw [← hX1.out]; exact heap_alloc_new W1 _
    have hks := hid_of (kinds_any X1)
    go_wp2_with (rw [hX1.out])
    refine hks.out.mono ?_
    rintro e X2 ⟨rfl, hB3⟩
    clear hks hX1
    obtain ⟨X3, hX3⟩ : ∃ X3, Hid (((X2.alloc (.map #[] 0)).alloc (.cells kinds0 65)).alloc (.cells #[.map none] 67) = X3) := ⟨_, rfl⟩
    have s3 : X3.heap.size = X2.heap.size + 3 := by rw [← hX3.out]; simp
    have hB3' : Below X2.heap.size X2 X3 := by rw [← hX3.out]; exact (((Below.refl _ X2).alloc (Nat.le_refl _) _).alloc (by simp <;> omega) _).alloc (by simp <;> omega) _
    have g3 : X3.heap[X2.heap.size + 1]? = some (.cells kinds0 65 (0, 0)) := by rw [← hX3.out]; exact (Below.heap_alloc _ _ _ (by simp <;> omega)).trans (heap_alloc2_new X2 _ _)
    have m3 : X3.heap[X2.heap.size + 2]? = some (.cells #[.map none] 67 (0, 0)) := by
      have := heap_alloc_new ((X2.alloc (.map #[] 0)).alloc (.cells kinds0 65)) (.cells #[.map none] 67)
      rw [← hX3.out]
      simpa using this
    have th3 : ThAt X3 X2.heap.size 0 (fun _ _ => none) := by
      refine (thAt_made X2).keep ?_
      rw [← hX3.out]
      exact (Below.heap_alloc _ _ _ (by simp <;> omega)).trans (Below.heap_alloc _ _ _ (by simp <;> omega))
    obtain ⟨X4, hX4⟩ : ∃ X4, Hid (X3.setRow (X2.heap.size + 1) kindsA = X4) := ⟨_, rfl⟩
    have o4 : kindsA.all (·.oneCell') = true := by kernel_rfl
    have s1 : kinds0.size = kindsA.size := rfl
    have i1 : (Try.prog.info? 65).map (·.size) = some kindsA.size := ks_i
    have hk4 : ∀ b, b ≠ X2.heap.size + 1 → X4.heap[b]? = X3.heap[b]? := fun b hb => by rw [← hX4.out]; exact setRow_other _ _ _ _ hb
    have g4 : X4.heap[X2.heap.size + 1]? = some (.cells kindsA 65 (0, 0)) := by rw [← hX4.out]; exact setRow_heap _ _ _ _ _ _ g3
    have m4 := (hk4 (X2.heap.size + 2) (by omega)).trans m3
    have m4c : X4.cell? ⟨X2.heap.size + 2, 0, none⟩ = some (.map none) := by simp [World.cell?, m4]
    have m4f : X4.frozen? ⟨X2.heap.size + 2, 0, none⟩ = false := by simp [World.frozen?, m4]
    obtain ⟨X5, hX5⟩ : ∃ X5, Hid (X4.setCell ⟨X2.heap.size + 2, 0, none⟩ (.map (some X2.heap.size)) = X5) := ⟨_, rfl⟩
    have hk5 : ∀ b, b ≠ X2.heap.size + 2 → X5.heap[b]? = X4.heap[b]? := fun b hb => by rw [← hX5.out]; exact Below.heap_setCell _ _ _ _ hb
    have m5 : X5.heap[X2.heap.size + 2]? = some (.cells #[.map (some X2.heap.size)] 67 (0, 0)) := by rw [← hX5.out]; simp [World.setCell, Array.getElem?_modify, m4]
    have s5 : X5.heap.size = X2.heap.size + 3 := by rw [← hX5.out, ← hX4.out]; simp [World.setCell, s3]
    have hB35 : Below X2.heap.size X2 X5 := by
      rw [← hX5.out, ← hX4.out]
      exact (below_setRow hB3' (by omega) _).setCell (p := ⟨X2.heap.size + 2, 0, none⟩) (by show X2.heap.size ≤ X2.heap.size + 2; omega) _
    obtain ⟨X6, hX6⟩ : ∃ X6, Hid (X5.alloc (.cells #[.slice a evs.length cap] 22) = X6) := ⟨_, rfl⟩
    have hB56 : Below X5.heap.size X5 X6 := by rw [← hX6.out]; exact (Below.refl _ X5).alloc (Nat.le_refl _) _
    have e6 : X6.heap[X5.heap.size]? = some (.cells #[.slice a evs.length cap] 22 (0, 0)) := by rw [← hX6.out]; exact heap_alloc_new X5 _
    have s6 : X6.heap.size = X2.heap.size + 4 := by rw [← hX6.out]; simp [s5]
    have hof := hid_of (of_any a evs.length cap X5)
    rw [hX6.out] at hof
    have l1 : w.heap.size < W1.heap.size := (Array.getElem?_eq_some_iff.1 z1).1
    have l2 : W1.heap.size < X1.heap.size := (Array.getElem?_eq_some_iff.1 o1).1
    have l3 := hB3.size
    have z5 : X5.heap[w.heap.size]? = some (.cells #[.slice a evs.length cap] 22 (0, 0)) := (hB35.block _ (by omega)).trans ((hB3.block _ (by omega)).trans ((hB2.block _ l1).trans z1))
    have z5c : X5.cell? ⟨w.heap.size, 0, none⟩ = some (.slice a evs.length cap) := by simp [World.cell?, z5]
    have o5 : X5.heap[W1.heap.size]? = some (.cells #[.slice none 0 0] 41 (0, 0)) := (hB35.block _ (by omega)).trans ((hB3.block _ l2).trans o1)
    have hB05 : Below w.heap.size w X5 := ((hB1.trans (hB2.mono hB1.size)).trans (hB3.mono (by omega))).trans (hB35.mono (by omega))
    have hB06 : Below w.heap.size w X6 := hB05.trans (hB56.mono (by omega))
    have hI0 : Hid (RcJ w X6.heap.size w.heap.size W1.heap.size (X2.heap.size + 1) (X2.heap.size + 2) X2.heap.size cap a evs 0 (fun _ => False) X6) := by
      refine ⟨0, fun _ _ => none, fun _ _ _ => False, .slice none 0 0, (hB56.block _ (by omega)).trans z5, (hB56.block _ (by omega)).trans o5, (hB56.block _ (by omega)).trans ((hk5 _ (by omega)).trans g4), (hB56.block _ (by omega)).trans m5, th3.keep ((hB56.block _ (by omega)).trans ((hk5 _ (by omega)).trans (hk4 _ (by omega)))), Nat.le_refl _, ⟨rfl, .inl ⟨rfl, rfl⟩⟩, (fun g hg => by cases hg), (fun _ _ _ h => by cases h), (fun _ _ _ => rfl), (fun _ _ _ h => absurd rfl h), (fun _ _ _ _ _ h => absurd rfl h), ⟨fun e => e, fun e => e, fun e => e, fun e => e, fun e => e⟩, (fun b e => e.elim), hB06⟩
    have hE6 := hid_of (hE.keep hB06)
    have hbx : Hid (X6.cell? ⟨X5.heap.size, 0, none⟩ = some (.slice a evs.length cap)) := by unfold Hid; simp [World.cell?, e6]
    have hl5 : Hid (w.heap.size < W1.heap.size ∧ W1.heap.size < X2.heap.size ∧ X6.heap.size = X2.heap.size + 4) := ⟨l1, by omega, s6⟩
    unfold kinds0 at hX3 g3 s1
    replace hwf := hid_of hwf
    replace c4 := hid_of c4
    replace hE := hid_of hE
    clear hB1 hB2 hB3 hB3' hB35 hB56 hB05 hB06 hk4 hk5 m3 th3 g4 m4 e6 z5 o5 m5 z1 o1 l1 l2 l3
    go_wp2_with (first | rw [hX3.out] | rw [hX4.out] | rw [hX5.out] | (refine wpList_store_row rfl 65 _ _ rfl (X2.heap.size + 1) _ rfl rfl _ _ g3 i1 s1 o4 ?_))
    refine hof.out.mono ?_
    rintro e w' ⟨rfl, hw'⟩
    obtain rfl : X6 = w' := hw'.symm
    clear hof hX3 hX4 hX5 hX6 hw' g3 o4 s1 i1 hmm m4c m4f z5c s3 s5
    go_wp2_with fail
    refine rf_now (n := 9) (p1 := 27) (p2 := 28) (s1 := 10) (s2 := 11) (bE := X5.heap.size) (cap := cap) (a := a) (evs := evs) rfl hE6.out hbx.out hcap (fun e he => ok16 (c4.out e he) (by omega)) hwf.out (by omega)
      (RcJ w X6.heap.size w.heap.size W1.heap.size (X2.heap.size + 1) (X2.heap.size + 2) X2.heap.size cap a evs) (RcJ.abid _ _ _ _ _ _ _ _ _ _) ?io hI0.out ?assign ?body ?done
    case io =>
      intro k S W o h
      have h4 := hl5.out
      exact h.put ⟨by omega, by omega⟩ (by omega) ⟨by omega, by omega, by omega, by omega, by omega⟩ o
    case assign =>
      intro k W K hK
      obtain ⟨h3, hb, hn, s1, o1⟩ := store_new (clkAt evs k) W
      have hK' := hid_of (hK _ hb hn)
      unfold nowAct at hK'
      unfold zeros16 at h3 s1 hK'
      clear hK hb hn
      simp only [List.setIfInBounds_toArray, List.set_cons_succ, List.set_cons_zero] at hK' ⊢
      gi_wp2_with (refine wpListIn_store_row rfl 49 _ _ rfl W.heap.size _ rfl rfl _ _ h3 (by rw [clk_i]; simp [ck_len]) s1 o1 ?_)
      exact hK'.out
    case body =>
      intro k S bn W hI hbn1 hbn2 hlt hEv hSl hS1 hS2 hlW
      unfold nowAct
      simp only [List.setIfInBounds_toArray, List.set_cons_succ, List.set_cons_zero]
      obtain ⟨m, f, FP, ov, hI⟩ := hI
      obtain ⟨ev, hev⟩ : ∃ ev, Hid (evs[k]? = some ev) := ⟨evs[k], List.getElem?_eq_getElem hlt⟩
      have hev1 := ok16 (c4.out ev (List.mem_of_getElem? hev.out)) (by omega)
      have hev2 := hwf.out ev (List.mem_of_getElem? hev.out)
      have hgood := hid_of (usK_good evs (fun e he => ok16 (c4.out e he) (by omega)) k (by omega) ev.o ev.n)
      obtain ⟨c0, k0, o0, n0⟩ := ev
      simp only at hev2 hgood
      unfold okEv at hev1
      simp at hev1
      obtain ⟨c, rfl⟩ := Int.eq_ofNat_of_zero_le hev1.1.1.1
      obtain ⟨kd, rfl⟩ := Int.eq_ofNat_of_zero_le (a := k0) (by omega)
      have hc : c < 16 := by omega
      have hkd : 1 ≤ kd ∧ kd ≤ 11 := by omega
      clear hev1
      have h4 := hl5.out
      obtain ⟨b, o, rfl, hb, y0, y1, y2, y3⟩ := hEv k _ hev.out
      have hbw : b < w.heap.size := by
        obtain ⟨b', o', h1, h2, _⟩ := hE.out k _ hev.out
        cases h1
        exact h2
      simp only at y0 y1 y2 y3
      have x0 : W.cell? ⟨w.heap.size, 0, none⟩ = some (.slice (some ⟨b, o, none⟩) evs.length cap) := by simp [World.cell?, hI.ev]
      by_cases huse : kd = 8 ∨ kd = 9
      · obtain ⟨g0, g1, g2⟩ := kinds_no (kd := kd) (by omega)
        have hmix : (Try.prog).follows .mixedOrders = true := by kernel_rfl
        have hnS := hI.nS
        have hmw : m ≤ 1048576 := by have := hI.mle; omega
        have hu : isUse ⟨(c : Int), (kd : Int), o0, n0⟩ = true := by simp [isUse]; omega
        have hrows := hid_of hI.rows
        have ovl : Hid (∀ g, ov.ownBlock = some g → g < W.heap.size) := fun g hg => (ownsRow_lt hI.rows hg).1
        obtain ⟨rb, wb, hrw, hwb, e1, e2⟩ : ∃ rb wb, ((rb = true ∧ wb = false) ∨ (rb = false ∧ wb = true)) ∧ Hid (decide ((kd : Int) = 9) = wb) ∧ (kd == 8) = rb ∧ (kd == 9) = wb := by
          rcases huse with rfl | rfl
          · exact ⟨true, false, .inl ⟨rfl, rfl⟩, rfl, rfl, rfl⟩
          · exact ⟨false, true, .inr ⟨rfl, rfl⟩, rfl, rfl, rfl⟩
        rw [e1] at g1
        rw [e2] at g2
        have r0 : W.cell? ⟨X2.heap.size + 1, kd * 3, none⟩ = some .nilFunc := by simp [World.cell?, hI.ks, g0]
        have r1 : W.cell? ⟨X2.heap.size + 1, kd * 3 + 1, none⟩ = some (.bool rb) := by simp [World.cell?, hI.ks, g1]
        have r2 : W.cell? ⟨X2.heap.size + 1, kd * 3 + 2, none⟩ = some (.bool wb) := by simp [World.cell?, hI.ks, g2]
        obtain ⟨Y1, hY1⟩ : ∃ Y1, Hid (W.alloc (.cells #[.nilFunc, .bool rb, .bool wb] 64) = Y1) := ⟨_, rfl⟩
        have hB1 : Below W.heap.size W Y1 := by rw [← hY1.out]; exact (Below.refl _ W).alloc (Nat.le_refl _) _
        have z1 : Y1.heap[W.heap.size]? = some (.cells #[.nilFunc, .bool rb, .bool wb] 64 (0, 0)) := by rw [← hY1.out]; exact heap_alloc_new W _
        obtain ⟨k0, k1, k2⟩ := cells3 z1
        have hsz1 : W.heap.size < Y1.heap.size := (Array.getElem?_eq_some_iff.1 z1).1
        have hI1 := hid_of (hI.below hB1)
        have htin := hid_of (tin_cell X2.heap.size m f (kd : Int) o0 n0 Y1.drew (hI1.out.th.keep rfl) hmw hev2.1 hev2.2)
        have p2 : Y1.cell? ⟨w.heap.size, 0, none⟩ = some (.slice (some ⟨b, o, none⟩) evs.length cap) := stay hB1 x0
        have p9 : Y1.cell? ⟨X2.heap.size + 2, 0, none⟩ = some (.map (some X2.heap.size)) := by simp [World.cell?, hI1.out.mp]
        have q0 := stay hB1 y0
        have q1 := stay hB1 y1
        have q2 := stay hB1 y2
        have q3 := stay hB1 y3
        have n1 := hid_of ((hB1.block _ (Array.getElem?_eq_some_iff.1 hbn2).1).trans hbn2)
        have hbs : Hid (b ≠ X2.heap.size ∧ bn ≠ X2.heap.size ∧ w.heap.size ≠ X2.heap.size ∧ W.heap.size ≠ X2.heap.size) := ⟨by omega, by omega, by omega, by omega⟩
        replace hI := hid_of hI
        replace hB1 := hid_of hB1
        replace z1 := hid_of z1
        replace hEv := hid_of hEv
        clear g0 g1 g2 hbn2 e1 e2
        rcases hrw with ⟨rfl, rfl⟩ | ⟨rfl, rfl⟩
        · gi_wp2_with (rw [hY1.out])
          clear r0 r1 r2 x0 y0 y1 y2 y3 hY1
          refine region_round (fun W' => W'.cell? ⟨X2.heap.size + 1 + 1, 0, none⟩ = some (.map (some X2.heap.size)) ∧ W'.cell? ⟨w.heap.size, 0, none⟩ = some (.slice (some ⟨b, o, none⟩) evs.length cap) ∧ W'.cell? ⟨b, o + k * 4, none⟩ = some (.int .i64 (c : Int)) ∧ W'.cell? ⟨b, o + k * 4 + 1, none⟩ = some (.int .i64 (kd : Int)) ∧ W'.cell? ⟨b, o + k * 4 + 2, none⟩ = some (.int .i64 o0) ∧ W'.cell? ⟨b, o + k * 4 + 3, none⟩ = some (.int .i64 n0)) hmix (by kernel_rfl) ⟨p9, p2, q0, q1, q2, q3⟩ (fun hHeld => ?_)
          refine wpAnyH_take (i := 0) (v := .map (some X2.heap.size)) rfl (by kernel_rfl) (by kernel_rfl) (by kernel_rfl) (fun _ _ _ h => h.put) (Or.inl ⟨by rfl, (by intro w' hSw; obtain ⟨s9, s2, t0, t1, t2, t3⟩ := hSw; go_simp)⟩) hHeld ?_
          simp only [Act.put, List.getElem_toArray, List.getElem_cons_zero, List.setIfInBounds_toArray, List.set_cons_zero, List.set_cons_succ]
          refine wpAnyH_take (i := 1) (v := .slice (some ⟨b, o, none⟩) evs.length cap) rfl (by kernel_rfl) (by kernel_rfl) (by kernel_rfl) (fun _ _ _ h => h.put) (Or.inl ⟨by rfl, (by intro w' hSw; obtain ⟨s9, s2, t0, t1, t2, t3⟩ := hSw; go_simp)⟩) hHeld ?_
          simp only [Act.put, List.getElem_toArray, List.getElem_cons_zero, List.getElem_cons_succ, List.setIfInBounds_toArray, List.set_cons_zero, List.set_cons_succ]
          refine wpAnyH_take (i := 2) (v := .int .i64 (k : Int)) rfl (by kernel_rfl) (by kernel_rfl) (by kernel_rfl) (fun _ _ _ h => h.put) (Or.inl ⟨by rfl, (by intro w' hSw; obtain ⟨s9, s2, t0, t1, t2, t3⟩ := hSw; go_simp)⟩) hHeld ?_
          simp only [Act.put, List.getElem_toArray, List.getElem_cons_zero, List.getElem_cons_succ, List.setIfInBounds_toArray, List.set_cons_zero, List.set_cons_succ]
          refine wpAnyH_take (i := 3) (v := .pointer (some ⟨b, o + k * 4, none⟩)) rfl (by kernel_rfl) (by kernel_rfl) (by kernel_rfl) (fun _ _ _ h => h.put) (Or.inl ⟨by rfl, (by intro w' hSw; obtain ⟨s9, s2, t0, t1, t2, t3⟩ := hSw; go_simp)⟩) hHeld ?_
          simp only [Act.put, List.getElem_toArray, List.getElem_cons_zero, List.getElem_cons_succ, List.setIfInBounds_toArray, List.set_cons_zero, List.set_cons_succ]
          refine wpAnyH_take (i := 4) (v := .pointer (some ⟨b, o + k * 4 + 1, none⟩)) rfl (by kernel_rfl) (by kernel_rfl) (by kernel_rfl) (fun _ _ _ h => h.put) (Or.inl ⟨by rfl, (by intro w' hSw; obtain ⟨s9, s2, t0, t1, t2, t3⟩ := hSw; go_simp)⟩) hHeld ?_
          simp only [Act.put, List.getElem_toArray, List.getElem_cons_zero, List.getElem_cons_succ, List.setIfInBounds_toArray, List.set_cons_zero, List.set_cons_succ]
          refine wpAnyH_take (i := 5) (v := .agg #[.int .i64 (kd : Int), .int .i64 o0, .int .i64 n0]) rfl (by kernel_rfl) (by kernel_rfl) (by kernel_rfl) (fun _ _ _ h => h.put) (Or.inl ⟨by rfl, (by intro w' hSw; obtain ⟨s9, s2, t0, t1, t2, t3⟩ := hSw; go_simp)⟩) hHeld ?_
          simp only [Act.put, List.getElem_toArray, List.getElem_cons_zero, List.getElem_cons_succ, List.setIfInBounds_toArray, List.set_cons_zero, List.set_cons_succ]
          refine wpAnyH_take (i := 7) (v := .slice (some ⟨b, o, none⟩) evs.length cap) rfl (by kernel_rfl) (by kernel_rfl) (by kernel_rfl) (fun _ _ _ h => h.put) (Or.inl ⟨by rfl, (by intro w' hSw; obtain ⟨s9, s2, t0, t1, t2, t3⟩ := hSw; go_simp)⟩) hHeld ?_
          simp only [Act.put, List.getElem_toArray, List.getElem_cons_zero, List.getElem_cons_succ, List.setIfInBounds_toArray, List.set_cons_zero, List.set_cons_succ]
          refine wpAnyH_take (i := 8) (v := .int .i64 (k : Int)) rfl (by kernel_rfl) (by kernel_rfl) (by kernel_rfl) (fun _ _ _ h => h.put) (Or.inl ⟨by rfl, (by intro w' hSw; obtain ⟨s9, s2, t0, t1, t2, t3⟩ := hSw; go_simp)⟩) hHeld ?_
          simp only [Act.put, List.getElem_toArray, List.getElem_cons_zero, List.getElem_cons_succ, List.setIfInBounds_toArray, List.set_cons_zero, List.set_cons_succ]
          refine wpAnyH_take (i := 9) (v := .pointer (some ⟨b, o + k * 4, none⟩)) rfl (by kernel_rfl) (by kernel_rfl) (by kernel_rfl) (fun _ _ _ h => h.put) (Or.inl ⟨by rfl, (by intro w' hSw; obtain ⟨s9, s2, t0, t1, t2, t3⟩ := hSw; go_simp)⟩) hHeld ?_
          simp only [Act.put, List.getElem_toArray, List.getElem_cons_zero, List.getElem_cons_succ, List.setIfInBounds_toArray, List.set_cons_zero, List.set_cons_succ]
          refine wpAnyH_take (i := 10) (v := .pointer (some ⟨b, o + k * 4, none⟩)) rfl (by kernel_rfl) (by kernel_rfl) (by kernel_rfl) (fun _ _ _ h => h.put) (Or.inl ⟨by rfl, (by intro w' hSw; obtain ⟨s9, s2, t0, t1, t2, t3⟩ := hSw; go_simp)⟩) hHeld ?_
          simp only [Act.put, List.getElem_toArray, List.getElem_cons_zero, List.getElem_cons_succ, List.setIfInBounds_toArray, List.set_cons_zero, List.set_cons_succ]
          refine wpAnyH_take (i := 11) (v := .int .i64 (c : Int)) rfl (by kernel_rfl) (by kernel_rfl) (by kernel_rfl) (fun _ _ _ h => h.put) (Or.inl ⟨by rfl, (by intro w' hSw; obtain ⟨s9, s2, t0, t1, t2, t3⟩ := hSw; go_simp)⟩) hHeld ?_
          simp only [Act.put, List.getElem_toArray, List.getElem_cons_zero, List.getElem_cons_succ, List.setIfInBounds_toArray, List.set_cons_zero, List.set_cons_succ]
          refine wpAnyH_ready (rs := [6]) (by kernel_rfl) (by simp) ?_
          refine AllReadyH.cons rfl (fun K hK => ?_) AllReadyH.nil
          rw [if_pos (by rfl)]
          go_simp
          refine htin.out.mono ?_
          rintro e Z1 ⟨cb, m', rfl, hm', hT1, hF1, hcb⟩
          have hb4 := hbs.out
          refine hK.out _ _ ⟨hF1.cell p9 (by show ¬ X2.heap.size + 1 + 1 = X2.heap.size; omega), hF1.cell p2 hb4.2.2.1, hF1.cell q0 hb4.1, hF1.cell q1 hb4.1, hF1.cell q2 hb4.1, hF1.cell q3 hb4.1⟩ (fun hHeld => ?_)
          clear hK K
          refine wpAnyH_take (i := 12) (v := .pointer (some ⟨cb, 0, none⟩)) rfl (by kernel_rfl) (by kernel_rfl) (by kernel_rfl) (fun _ _ _ h => h.put) (Or.inl ⟨by rfl, (by intro w' hSw; obtain ⟨s9, s2, t0, t1, t2, t3⟩ := hSw; go_simp)⟩) hHeld ?_
          simp only [Act.put, List.getElem_toArray, List.getElem_cons_zero, List.getElem_cons_succ, List.setIfInBounds_toArray, List.set_cons_zero, List.set_cons_succ]
          refine wpAnyH_take (i := 13) (v := .int .i64 (c : Int)) rfl (by kernel_rfl) (by kernel_rfl) (by kernel_rfl) (fun _ _ _ h => h.put) (Or.inl ⟨by rfl, (by intro w' hSw; obtain ⟨s9, s2, t0, t1, t2, t3⟩ := hSw; go_simp)⟩) hHeld ?_
          simp only [Act.put, List.getElem_toArray, List.getElem_cons_zero, List.getElem_cons_succ, List.setIfInBounds_toArray, List.set_cons_zero, List.set_cons_succ]
          refine wpAnyH_done (by kernel_rfl) ⟨rfl, ?_⟩ _
          obtain ⟨FP1, hI2⟩ := (hI1.out.below (below_drew (Below.refl _ Y1))).tin (fun b' hb' => Nat.lt_trans (hSl b' hb') hsz1) (by show _ ≤ Y1.heap.size; omega) (by omega) (by have := hI1.out.mle; omega) hT1 hF1 hcb ⟨by omega, by omega, by omega, by omega, by omega⟩
          have hcell := hI2.cells o0 n0 cb (updW_same _ _ _ _)
          have hOk : OkU (usK evs k o0 n0) := ⟨hgood.out.c, hgood.out.ra, hgood.out.rw, fun u hu => Nat.le_trans (hgood.out.la u hu) (by omega), fun u hu => Nat.le_trans (hgood.out.lw u hu) (by omega)⟩
          have hap := hid_of (fun wb => apart_any cb _ _ (clkAt evs k) wb Z1 hcell hOk (Nat.le_trans hgood.out.ln (by omega)))
          have nb1 : Z1.heap[bn]? = some (.cells (ck (clkAt evs k)).toArray 49 (0, 0)) := (hF1.block _ (Array.getElem?_eq_some_iff.1 n1.out).1 hb4.2.1).trans n1.out
          have zb1 := (hF1.block _ (Array.getElem?_eq_some_iff.1 z1.out).1 hb4.2.2.2).trans z1.out
          obtain ⟨v0, v1, v2⟩ := cells3 zb1
          have rg1 := (grid_one nb1).range (c := 0) (by decide)
          rw [Nat.zero_mul] at rg1
          replace hI2 := hid_of hI2
          replace hF1 := hid_of hF1
          replace hT1 := hid_of hT1
          replace hcb := hid_of hcb
          clear hHeld p9 p2 q0 q1 q2 q3 k0 k1 k2 htin
          have hrA : raceAt evs k = apartU (usK evs k o0 n0) (clkAt evs k) (decide ((kd : Int) = 9)) := by simp [raceAt, hev.out, hu]
          have hG : Hid (∀ b', S b' ∨ b' = X6.heap.size ∨ b' = X6.heap.size + 1 → b' < W.heap.size ∧ b' ≠ X2.heap.size ∧ b' ≠ W1.heap.size) := fun b' hb' => by
            rcases hb' with hb' | hb' | hb'
            · exact ⟨hSl b' hb', fun e => hnS.2.2.2.2 (e ▸ hb'), fun e => hnS.2.1 (e ▸ hb')⟩
            · exact ⟨by omega, by omega, by omega⟩
            · exact ⟨by omega, by omega, by omega⟩
          have hfin : Hid (∀ (Rn : List (Nat × Nat)) (ov' : Value) (Zx : World), RcI w X6.heap.size w.heap.size W1.heap.size (X2.heap.size + 1) (X2.heap.size + 2) X2.heap.size cap (some ⟨b, o, none⟩) evs (k + 1) (usK evs k) Rn S Zx m' (updW f o0 n0 cb) FP1 ov' → (∀ b', S b' ∨ b' = X6.heap.size ∨ b' = X6.heap.size + 1 → Zx.heap[b']? = W.heap[b']?) → W.heap.size ≤ Zx.heap.size → Rn = raceK evs (k + 1) →
              ∀ P0 : Nat → Prop, (∀ b, P0 b → FP1 o0 n0 b) → ∀ wb, decide ((kd : Int) = 9) = wb → ∀ e Z3, UsePost Zx.drew cb (useU (usK evs k o0 n0) c (k, clkAt evs k c) wb) P0 e Z3 → ∀ a'', rPost (RcJ w X6.heap.size w.heap.size W1.heap.size (X2.heap.size + 1) (X2.heap.size + 2) X2.heap.size cap (some ⟨b, o, none⟩) evs) X6.heap.size (some ⟨b, o, none⟩) evs k S W .normal a'' Z3) := by
            intro Rn ov' Zx hIx hkx hsx hRn P0 hP0 wb hwb' e Z3 hpost a''
            obtain ⟨P3, -, hC3, hP3, hF3⟩ := hpost
            replace hF3 := hF3.mono (T := FP1 o0 n0) (fun b hb => .inl (hP0 b hb))
            replace hP3 : ∀ b, P3 b → FP1 o0 n0 b ∨ Zx.drew.heap.size ≤ b := fun b hb => (hP3 b hb).imp (hP0 b) id
            have hId := hIx.below (below_drew (Below.refl _ Zx))
            obtain ⟨FP2, hI4⟩ := hId.use (fun b' hb' => Nat.lt_of_lt_of_le (hSl b' hb') hsx) (by show _ ≤ Zx.heap.size; omega) (by omega) (updW_same _ _ _ _) ⟨by omega, by omega, by omega, by omega, by omega⟩ hC3 hP3 hF3
            have hun : usK evs (k + 1) = updA (usK evs k) o0 n0 (useU (usK evs k o0 n0) c (k, clkAt evs k c) wb) := by
              rw [usK_succ hev.out, stepU, hu]
              simp only [if_true, Int.toNat_natCast, hwb']
            refine ⟨rfl, ⟨m', updW f o0 n0 cb, FP2, ov', ?_⟩, fun b' hb' => ?_, Nat.le_trans hsx hF3.size, hE.out.keep hI4.bel⟩
            · rw [hun, ← hRn]
              exact hI4
            · have hg := hG.out b' hb'
              refine (hF3.block b' (Nat.lt_of_lt_of_le hg.1 hsx) (fun e => ?_)).trans (hkx b' hb')
              have hf := hId.fpB o0 n0 b' (by rw [updW_same]; simp) e
              rcases hb' with hb' | hb' | hb'
              · exact hf.2 hb'
              · omega
              · omega
          have hci : (c : Int) < 16 := by omega
          have hkz : Hid (∀ b', S b' ∨ b' = X6.heap.size ∨ b' = X6.heap.size + 1 → Z1.heap[b']? = W.heap[b']?) := fun b' hb' => by
            have hg := hG.out b' hb'
            exact (hF1.out.block b' (Nat.lt_trans hg.1 hsz1) hg.2.1).trans (hB1.out.block b' hg.1)
          have hsz : W.heap.size ≤ Z1.heap.size := Nat.le_trans (Nat.le_of_lt hsz1) hF1.out.size
          cases hA : apartU (usK evs k o0 n0) (clkAt evs k) (decide ((kd : Int) = 9)) with
          | none =>
            have hRk : Hid (raceK evs k = raceK evs (k + 1)) := by unfold Hid; simp [raceK, hrA, hA]
            rw [hwb.out] at hA
            gi_wp2_with (refine wpListIn_load_mid rfl 49 _ rfl bn 0 rfl (ck (clkAt evs k)) _ rg1 clk_u rfl (by rw [clk_i, ck_len]) ?_)
            refine ⟨trivial, (CallsIn.inRound _ (callsIn_wide.2 (hap.out _))).mono ?_⟩
            rintro e Z2 ⟨rfl, hb2⟩
            rw [hA]
            have hI3 := hid_of (hI2.out.below hb2)
            have nbk := (hb2.block _ (Array.getElem?_eq_some_iff.1 nb1).1).trans nb1
            have zbk := (hb2.block _ (Array.getElem?_eq_some_iff.1 zb1).1).trans zb1
            have nb2 := stay hb2 v2
            have nc := (grid_one nbk).cell (c := 0) (i := c) (by decide) hc
            rw [Nat.zero_mul, Nat.zero_add] at nc
            have hfin' := hid_of (hfin.out _ _ Z2 hI3.out (fun b' hb' => (hb2.block b' (Nat.lt_of_lt_of_le (hG.out b' hb').1 hsz)).trans (hkz.out b' hb')) (Nat.le_trans hsz hb2.size) hRk.out)
            obtain ⟨P0, hC0, hP0s, hP0t⟩ := ((hI3.out.below (below_drew (Below.refl _ Z2))).cells o0 n0 cb (updW_same _ _ _ _)).shrink
            have hus := hid_of (use_any cb _ P0 c (k, clkAt evs k c) false Z2.drew hC0 (Nat.le_trans hgood.out.ln (by omega)) (fun v hv => ⟨Nat.le_trans (hgood.out.la v hv) (by omega), Nat.le_trans (hgood.out.lw v hv) (by omega)⟩))
            have hfpn : Hid (¬ P0 bn ∧ ¬ P0 W.heap.size) := ⟨fun e => by
              obtain ⟨cs, t, h1, h2⟩ := hP0t _ e
              have h1 : Z2.heap[bn]? = _ := h1
              rw [nbk] at h1
              cases h1
              revert h2
              decide, fun e => by
              obtain ⟨cs, t, h1, h2⟩ := hP0t _ e
              have h1 : Z2.heap[W.heap.size]? = _ := h1
              rw [zbk] at h1
              cases h1
              revert h2
              decide⟩
            replace hP0s := hid_of hP0s
            clear hP0t hC0
            replace hb2 := hid_of hb2
            clear v0 v1 v2 rg1 nb1 zb1 hap nbk zbk hfin hkz hrA hA hOk hcell
            unfold unkV
            gi_wp2_with fail
            refine region_round (fun W' => W'.cell? ⟨bn, c, none⟩ = some (.int .i32 (clkAt evs k c : Nat)) ∧ W'.cell? ⟨W.heap.size, 2, none⟩ = some (.bool false)) hmix (by kernel_rfl) ⟨nc, nb2⟩ (fun hHeld => ?_)
            refine wpAnyH_take (i := 0) (v := .pointer (some ⟨cb, 0, none⟩)) rfl (by kernel_rfl) (by kernel_rfl) (by kernel_rfl) (fun _ _ _ h => h.put) (Or.inl ⟨by rfl, (by intro w' hSw; obtain ⟨sc, sb⟩ := hSw; go_simp)⟩) hHeld ?_
            simp only [Act.put, List.getElem_toArray, List.getElem_cons_zero, List.setIfInBounds_toArray, List.set_cons_zero, List.set_cons_succ]
            refine wpAnyH_take (i := 1) (v := .int .i64 (c : Int)) rfl (by kernel_rfl) (by kernel_rfl) (by kernel_rfl) (fun _ _ _ h => h.put) (Or.inl ⟨by rfl, (by intro w' hSw; obtain ⟨sc, sb⟩ := hSw; go_simp)⟩) hHeld ?_
            simp only [Act.put, List.getElem_toArray, List.getElem_cons_zero, List.getElem_cons_succ, List.setIfInBounds_toArray, List.set_cons_zero, List.set_cons_succ]
            refine wpAnyH_take (i := 2) (v := .int .i64 (k : Int)) rfl (by kernel_rfl) (by kernel_rfl) (by kernel_rfl) (fun _ _ _ h => h.put) (Or.inl ⟨by rfl, (by intro w' hSw; obtain ⟨sc, sb⟩ := hSw; go_simp)⟩) hHeld ?_
            simp only [Act.put, List.getElem_toArray, List.getElem_cons_zero, List.getElem_cons_succ, List.setIfInBounds_toArray, List.set_cons_zero, List.set_cons_succ]
            refine wpAnyH_take (i := 3) (v := .int .i64 (c : Int)) rfl (by kernel_rfl) (by kernel_rfl) (by kernel_rfl) (fun _ _ _ h => h.put) (Or.inl ⟨by rfl, (by intro w' hSw; obtain ⟨sc, sb⟩ := hSw; go_simp)⟩) hHeld ?_
            simp only [Act.put, List.getElem_toArray, List.getElem_cons_zero, List.getElem_cons_succ, List.setIfInBounds_toArray, List.set_cons_zero, List.set_cons_succ]
            refine wpAnyH_take (i := 4) (v := .pointer (some ⟨bn, c, none⟩)) rfl (by kernel_rfl) (by kernel_rfl) (by kernel_rfl) (fun _ _ _ h => h.put) (Or.inl ⟨by rfl, (by intro w' hSw; obtain ⟨sc, sb⟩ := hSw; go_simp)⟩) hHeld ?_
            simp only [Act.put, List.getElem_toArray, List.getElem_cons_zero, List.getElem_cons_succ, List.setIfInBounds_toArray, List.set_cons_zero, List.set_cons_succ]
            refine wpAnyH_take (i := 5) (v := .int .i32 (clkAt evs k c : Nat)) rfl (by kernel_rfl) (by kernel_rfl) (by kernel_rfl) (fun _ _ _ h => h.put) (Or.inl ⟨by rfl, (by intro w' hSw; obtain ⟨sc, sb⟩ := hSw; go_simp)⟩) hHeld ?_
            simp only [Act.put, List.getElem_toArray, List.getElem_cons_zero, List.getElem_cons_succ, List.setIfInBounds_toArray, List.set_cons_zero, List.set_cons_succ]
            refine wpAnyH_take (i := 6) (v := .agg #[.int .i64 (k : Int), .int .i32 (clkAt evs k c : Nat)]) rfl (by kernel_rfl) (by kernel_rfl) (by kernel_rfl) (fun _ _ _ h => h.put) (Or.inl ⟨by rfl, (by intro w' hSw; obtain ⟨sc, sb⟩ := hSw; go_simp)⟩) hHeld ?_
            simp only [Act.put, List.getElem_toArray, List.getElem_cons_zero, List.getElem_cons_succ, List.setIfInBounds_toArray, List.set_cons_zero, List.set_cons_succ]
            refine wpAnyH_take (i := 7) (v := .pointer (some ⟨W.heap.size, 2, none⟩)) rfl (by kernel_rfl) (by kernel_rfl) (by kernel_rfl) (fun _ _ _ h => h.put) (Or.inl ⟨by rfl, (by intro w' hSw; obtain ⟨sc, sb⟩ := hSw; go_simp)⟩) hHeld ?_
            simp only [Act.put, List.getElem_toArray, List.getElem_cons_zero, List.getElem_cons_succ, List.setIfInBounds_toArray, List.set_cons_zero, List.set_cons_succ]
            refine wpAnyH_take (i := 8) (v := .bool false) rfl (by kernel_rfl) (by kernel_rfl) (by kernel_rfl) (fun _ _ _ h => h.put) (Or.inl ⟨by rfl, (by intro w' hSw; obtain ⟨sc, sb⟩ := hSw; go_simp)⟩) hHeld ?_
            simp only [Act.put, List.getElem_toArray, List.getElem_cons_zero, List.getElem_cons_succ, List.setIfInBounds_toArray, List.set_cons_zero, List.set_cons_succ]
            refine wpAnyH_ready (rs := [9]) (by kernel_rfl) (by simp) ?_
            refine AllReadyH.cons rfl (fun K hK => ?_) AllReadyH.nil
            rw [if_pos (by rfl)]
            go_simp
            refine hus.out.mono ?_
            rintro e Z3 hpost
            have hpost' := hid_of hpost
            obtain ⟨P3, rfl, -, -, hF3⟩ := hpost
            refine hK.out _ _ ⟨hF3.cell nc hfpn.out.1, hF3.cell nb2 hfpn.out.2⟩ (fun hHeld => ?_)
            clear hK K
            refine wpAnyH_done (by kernel_rfl) ⟨rfl, ?_⟩ _
            gi_wp2_with fail
            first | exact hfin'.out P0 hP0s.out _ hwb.out _ _ hpost'.out _ | (rw [← hl5.out.2.2]; exact hfin'.out P0 hP0s.out _ hwb.out _ _ hpost'.out _)
          | some i =>
            have hRk : Hid (raceK evs k ++ [(i, k)] = raceK evs (k + 1)) := by unfold Hid; simp [raceK, hrA, hA]
            have hlenR := raceK_len evs k
            rw [hwb.out] at hA
            gi_wp2_with (refine wpListIn_load_mid rfl 49 _ rfl bn 0 rfl (ck (clkAt evs k)) _ rg1 clk_u rfl (by rw [clk_i, ck_len]) ?_)
            refine ⟨trivial, (CallsIn.inRound _ (callsIn_wide.2 (hap.out _))).mono ?_⟩
            rintro e Z1' ⟨rfl, hb2⟩
            rw [hA]
            have hI3 := hid_of (hI2.out.below hb2)
            have nbk0 := (hb2.block _ (Array.getElem?_eq_some_iff.1 nb1).1).trans nb1
            have zbk0 := (hb2.block _ (Array.getElem?_eq_some_iff.1 zb1).1).trans zb1
            have hob0 : Z1'.cell? ⟨W1.heap.size, 0, none⟩ = some ov := by simp [World.cell?, hI3.out.out]
            obtain ⟨Zn, hZn⟩ : ∃ Zn, Hid (Z1'.alloc (.cells #[.int .i64 (i : Int), .int .i64 (k : Int)] 75) = Zn) := ⟨_, rfl⟩
            have hBn : Below Z1'.heap.size Z1' Zn := by rw [← hZn.out]; exact (Below.refl _ Z1').alloc (Nat.le_refl _) _
            have zn : Zn.heap[Z1'.heap.size]? = some (.cells #[.int .i64 (i : Int), .int .i64 (k : Int)] 75 (0, 0)) := by rw [← hZn.out]; exact heap_alloc_new Z1' _
            obtain ⟨ri, hri, hri1, hri2, hri3⟩ : ∃ ri, Try.prog.info? 75 = some ri ∧ ri.zero = some (.agg #[.int .i64 0, .int .i64 0]) ∧ ri.size = 2 ∧ ri.bytes = 16 := by
              have := race_i
              cases hq : Try.prog.info? 75 with
              | none => rw [hq] at this; cases this
              | some ri => rw [hq] at this; simp at this; exact ⟨ri, rfl, this.1, this.2.1, this.2.2⟩
            have hown : Zn.ownsRow 0 75 2 ov (raceK evs k).length (flatR (raceK evs k)) := ownsRow_keep hI3.out.rows (fun g hg => hBn.block g (ownsRow_lt hI3.out.rows hg).1)
            have hnews : ∀ j u, [Value.int .i64 (i : Int), .int .i64 (k : Int)][j]? = some u → Zn.cell? ((⟨Z1'.heap.size, 0, none⟩ : Addr).add j) = some u := fun j u hj => by
              rcases j with _ | _ | j
              · simp at hj; subst hj; simp [World.cell?, Addr.add, zn]
              · simp at hj; subst hj; simp [World.cell?, Addr.add, zn]
              · simp at hj
            have hun31 : Try.prog.underlying 41 = some (.slice 75) := by kernel_rfl
            have hrace := hid_of (fun (w4 : World) (g4 c4' : Nat) h1 h2 h3 h4 => hI3.out.race (W1 := Zn) (w4 := w4) (g4 := g4) (c4 := c4') (u := (i, k)) (fun b' hb' => Nat.lt_of_lt_of_le (hSl b' hb') (Nat.le_trans hsz hb2.size)) (by have := hb2.size; omega) (by omega) ⟨by omega, by omega, by omega, by omega, by omega⟩ ⟨by omega, by omega, by omega, by omega⟩ hBn h1 h2 h3 h4)
            have hovn : Hid (ov.ownBlock ≠ some bn ∧ ov.ownBlock ≠ some W.heap.size) := by
              refine ⟨fun e => ?_, fun e => ?_⟩
              · obtain ⟨_, cur, hc'⟩ := ownsRow_lt hI3.out.rows e
                rw [nbk0] at hc'
                cases hc'
              · have := ovl.out _ e
                omega
            have hovG : Hid (∀ b', S b' ∨ b' = X6.heap.size ∨ b' = X6.heap.size + 1 → ov.ownBlock ≠ some b') := fun b' hb' e => by
              have hg := hI3.out.ovB b' e
              rcases hb' with hb' | hb' | hb'
              · exact hg.2.1 hb'
              · omega
              · omega
            unfold unkV
            gi_wp2_with (first | rw [hZn.out] | (refine wpListIn_append_lies rfl _ _ 41 rfl 0 75 ri _ 2 16 hun31 hri hri1 hri2 hri3 rfl (by decide) ov _ _ rfl hown ⟨Z1'.heap.size, 0, none⟩ 1 1 _ rfl rfl hnews (by simp [Value.oneCell']) (by decide) (by unfold maxLen; omega) (by omega) (Nat.zero_le _) _ rfl ?_; intro g4 c4' w4 r1 r2 r3 r4; obtain ⟨⟨e1, e2⟩, hI5, hk5, hs5⟩ := hrace.out w4 g4 c4' r1 r2 r3 r4))
            generalize w4.setCell ⟨W1.heap.size, 0, none⟩ (.slice (some ⟨g4, 0, none⟩) ((raceK evs k).length + 1) c4') = Z2 at hI5 hk5 hs5 ⊢
            have hsb := hb2.size
            have nbk := (hk5 bn (Array.getElem?_eq_some_iff.1 nbk0).1 (by omega) hovn.out.1).trans nbk0
            have zbk := (hk5 W.heap.size (Array.getElem?_eq_some_iff.1 zbk0).1 (by omega) hovn.out.2).trans zbk0
            have nb2 := (cells3 zbk).2.2
            have nc := (grid_one nbk).cell (c := 0) (i := c) (by decide) hc
            rw [Nat.zero_mul, Nat.zero_add] at nc
            have hfin' := hid_of (hfin.out _ _ Z2 hI5 (fun b' hb' => (hk5 b' (Nat.lt_of_lt_of_le (hG.out b' hb').1 (Nat.le_trans hsz hsb)) (hG.out b' hb').2.2 (hovG.out b' hb')).trans ((hb2.block b' (Nat.lt_of_lt_of_le (hG.out b' hb').1 hsz)).trans (hkz.out b' hb'))) (Nat.le_trans (Nat.le_trans hsz hsb) hs5) hRk.out)
            replace hI3 := hid_of hI5
            obtain ⟨P0, hC0, hP0s, hP0t⟩ := ((hI3.out.below (below_drew (Below.refl _ Z2))).cells o0 n0 cb (updW_same _ _ _ _)).shrink
            have hus := hid_of (use_any cb _ P0 c (k, clkAt evs k c) false Z2.drew hC0 (Nat.le_trans hgood.out.ln (by omega)) (fun v hv => ⟨Nat.le_trans (hgood.out.la v hv) (by omega), Nat.le_trans (hgood.out.lw v hv) (by omega)⟩))
            have hfpn : Hid (¬ P0 bn ∧ ¬ P0 W.heap.size) := ⟨fun e => by
              obtain ⟨cs, t, h1, h2⟩ := hP0t _ e
              have h1 : Z2.heap[bn]? = _ := h1
              rw [nbk] at h1
              cases h1
              revert h2
              decide, fun e => by
              obtain ⟨cs, t, h1, h2⟩ := hP0t _ e
              have h1 : Z2.heap[W.heap.size]? = _ := h1
              rw [zbk] at h1
              cases h1
              revert h2
              decide⟩
            replace hP0s := hid_of hP0s
            clear hP0t hC0
            clear v0 v1 v2 rg1 nb1 zb1 hap nbk zbk nbk0 zbk0 hfin hkz hrA hA hOk hcell hI5 hk5 hs5 r1 r2 r3 r4 e1 e2 hown hnews hrace zn hBn hZn hob0 hri hri1 hri2 hri3 hun31
            refine region_round (fun W' => W'.cell? ⟨bn, c, none⟩ = some (.int .i32 (clkAt evs k c : Nat)) ∧ W'.cell? ⟨W.heap.size, 2, none⟩ = some (.bool false)) hmix (by kernel_rfl) ⟨nc, nb2⟩ (fun hHeld => ?_)
            refine wpAnyH_take (i := 0) (v := .pointer (some ⟨cb, 0, none⟩)) rfl (by kernel_rfl) (by kernel_rfl) (by kernel_rfl) (fun _ _ _ h => h.put) (Or.inl ⟨by rfl, (by intro w' hSw; obtain ⟨sc, sb⟩ := hSw; go_simp)⟩) hHeld ?_
            simp only [Act.put, List.getElem_toArray, List.getElem_cons_zero, List.setIfInBounds_toArray, List.set_cons_zero, List.set_cons_succ]
            refine wpAnyH_take (i := 1) (v := .int .i64 (c : Int)) rfl (by kernel_rfl) (by kernel_rfl) (by kernel_rfl) (fun _ _ _ h => h.put) (Or.inl ⟨by rfl, (by intro w' hSw; obtain ⟨sc, sb⟩ := hSw; go_simp)⟩) hHeld ?_
            simp only [Act.put, List.getElem_toArray, List.getElem_cons_zero, List.getElem_cons_succ, List.setIfInBounds_toArray, List.set_cons_zero, List.set_cons_succ]
            refine wpAnyH_take (i := 2) (v := .int .i64 (k : Int)) rfl (by kernel_rfl) (by kernel_rfl) (by kernel_rfl) (fun _ _ _ h => h.put) (Or.inl ⟨by rfl, (by intro w' hSw; obtain ⟨sc, sb⟩ := hSw; go_simp)⟩) hHeld ?_
            simp only [Act.put, List.getElem_toArray, List.getElem_cons_zero, List.getElem_cons_succ, List.setIfInBounds_toArray, List.set_cons_zero, List.set_cons_succ]
            refine wpAnyH_take (i := 3) (v := .int .i64 (c : Int)) rfl (by kernel_rfl) (by kernel_rfl) (by kernel_rfl) (fun _ _ _ h => h.put) (Or.inl ⟨by rfl, (by intro w' hSw; obtain ⟨sc, sb⟩ := hSw; go_simp)⟩) hHeld ?_
            simp only [Act.put, List.getElem_toArray, List.getElem_cons_zero, List.getElem_cons_succ, List.setIfInBounds_toArray, List.set_cons_zero, List.set_cons_succ]
            refine wpAnyH_take (i := 4) (v := .pointer (some ⟨bn, c, none⟩)) rfl (by kernel_rfl) (by kernel_rfl) (by kernel_rfl) (fun _ _ _ h => h.put) (Or.inl ⟨by rfl, (by intro w' hSw; obtain ⟨sc, sb⟩ := hSw; go_simp)⟩) hHeld ?_
            simp only [Act.put, List.getElem_toArray, List.getElem_cons_zero, List.getElem_cons_succ, List.setIfInBounds_toArray, List.set_cons_zero, List.set_cons_succ]
            refine wpAnyH_take (i := 5) (v := .int .i32 (clkAt evs k c : Nat)) rfl (by kernel_rfl) (by kernel_rfl) (by kernel_rfl) (fun _ _ _ h => h.put) (Or.inl ⟨by rfl, (by intro w' hSw; obtain ⟨sc, sb⟩ := hSw; go_simp)⟩) hHeld ?_
            simp only [Act.put, List.getElem_toArray, List.getElem_cons_zero, List.getElem_cons_succ, List.setIfInBounds_toArray, List.set_cons_zero, List.set_cons_succ]
            refine wpAnyH_take (i := 6) (v := .agg #[.int .i64 (k : Int), .int .i32 (clkAt evs k c : Nat)]) rfl (by kernel_rfl) (by kernel_rfl) (by kernel_rfl) (fun _ _ _ h => h.put) (Or.inl ⟨by rfl, (by intro w' hSw; obtain ⟨sc, sb⟩ := hSw; go_simp)⟩) hHeld ?_
            simp only [Act.put, List.getElem_toArray, List.getElem_cons_zero, List.getElem_cons_succ, List.setIfInBounds_toArray, List.set_cons_zero, List.set_cons_succ]
            refine wpAnyH_take (i := 7) (v := .pointer (some ⟨W.heap.size, 2, none⟩)) rfl (by kernel_rfl) (by kernel_rfl) (by kernel_rfl) (fun _ _ _ h => h.put) (Or.inl ⟨by rfl, (by intro w' hSw; obtain ⟨sc, sb⟩ := hSw; go_simp)⟩) hHeld ?_
            simp only [Act.put, List.getElem_toArray, List.getElem_cons_zero, List.getElem_cons_succ, List.setIfInBounds_toArray, List.set_cons_zero, List.set_cons_succ]
            refine wpAnyH_take (i := 8) (v := .bool false) rfl (by kernel_rfl) (by kernel_rfl) (by kernel_rfl) (fun _ _ _ h => h.put) (Or.inl ⟨by rfl, (by intro w' hSw; obtain ⟨sc, sb⟩ := hSw; go_simp)⟩) hHeld ?_
            simp only [Act.put, List.getElem_toArray, List.getElem_cons_zero, List.getElem_cons_succ, List.setIfInBounds_toArray, List.set_cons_zero, List.set_cons_succ]
            refine wpAnyH_ready (rs := [9]) (by kernel_rfl) (by simp) ?_
            refine AllReadyH.cons rfl (fun K hK => ?_) AllReadyH.nil
            rw [if_pos (by rfl)]
            go_simp
            refine hus.out.mono ?_
            rintro e Z3 hpost
            have hpost' := hid_of hpost
            obtain ⟨P3, rfl, -, -, hF3⟩ := hpost
            refine hK.out _ _ ⟨hF3.cell nc hfpn.out.1, hF3.cell nb2 hfpn.out.2⟩ (fun hHeld => ?_)
            clear hK K
            refine wpAnyH_done (by kernel_rfl) ⟨rfl, ?_⟩ _
            gi_wp2_with fail
            first | exact hfin'.out P0 hP0s.out _ hwb.out _ _ hpost'.out _ | (rw [← hl5.out.2.2]; exact hfin'.out P0 hP0s.out _ hwb.out _ _ hpost'.out _)
        · gi_wp2_with (rw [hY1.out])
          clear r0 r1 r2 x0 y0 y1 y2 y3 hY1
          refine region_round (fun W' => W'.cell? ⟨X2.heap.size + 1 + 1, 0, none⟩ = some (.map (some X2.heap.size)) ∧ W'.cell? ⟨w.heap.size, 0, none⟩ = some (.slice (some ⟨b, o, none⟩) evs.length cap) ∧ W'.cell? ⟨b, o + k * 4, none⟩ = some (.int .i64 (c : Int)) ∧ W'.cell? ⟨b, o + k * 4 + 1, none⟩ = some (.int .i64 (kd : Int)) ∧ W'.cell? ⟨b, o + k * 4 + 2, none⟩ = some (.int .i64 o0) ∧ W'.cell? ⟨b, o + k * 4 + 3, none⟩ = some (.int .i64 n0)) hmix (by kernel_rfl) ⟨p9, p2, q0, q1, q2, q3⟩ (fun hHeld => ?_)
          refine wpAnyH_take (i := 0) (v := .map (some X2.heap.size)) rfl (by kernel_rfl) (by kernel_rfl) (by kernel_rfl) (fun _ _ _ h => h.put) (Or.inl ⟨by rfl, (by intro w' hSw; obtain ⟨s9, s2, t0, t1, t2, t3⟩ := hSw; go_simp)⟩) hHeld ?_
          simp only [Act.put, List.getElem_toArray, List.getElem_cons_zero, List.setIfInBounds_toArray, List.set_cons_zero, List.set_cons_succ]
          refine wpAnyH_take (i := 1) (v := .slice (some ⟨b, o, none⟩) evs.length cap) rfl (by kernel_rfl) (by kernel_rfl) (by kernel_rfl) (fun _ _ _ h => h.put) (Or.inl ⟨by rfl, (by intro w' hSw; obtain ⟨s9, s2, t0, t1, t2, t3⟩ := hSw; go_simp)⟩) hHeld ?_
          simp only [Act.put, List.getElem_toArray, List.getElem_cons_zero, List.getElem_cons_succ, List.setIfInBounds_toArray, List.set_cons_zero, List.set_cons_succ]
          refine wpAnyH_take (i := 2) (v := .int .i64 (k : Int)) rfl (by kernel_rfl) (by kernel_rfl) (by kernel_rfl) (fun _ _ _ h => h.put) (Or.inl ⟨by rfl, (by intro w' hSw; obtain ⟨s9, s2, t0, t1, t2, t3⟩ := hSw; go_simp)⟩) hHeld ?_
          simp only [Act.put, List.getElem_toArray, List.getElem_cons_zero, List.getElem_cons_succ, List.setIfInBounds_toArray, List.set_cons_zero, List.set_cons_succ]
          refine wpAnyH_take (i := 3) (v := .pointer (some ⟨b, o + k * 4, none⟩)) rfl (by kernel_rfl) (by kernel_rfl) (by kernel_rfl) (fun _ _ _ h => h.put) (Or.inl ⟨by rfl, (by intro w' hSw; obtain ⟨s9, s2, t0, t1, t2, t3⟩ := hSw; go_simp)⟩) hHeld ?_
          simp only [Act.put, List.getElem_toArray, List.getElem_cons_zero, List.getElem_cons_succ, List.setIfInBounds_toArray, List.set_cons_zero, List.set_cons_succ]
          refine wpAnyH_take (i := 4) (v := .pointer (some ⟨b, o + k * 4 + 1, none⟩)) rfl (by kernel_rfl) (by kernel_rfl) (by kernel_rfl) (fun _ _ _ h => h.put) (Or.inl ⟨by rfl, (by intro w' hSw; obtain ⟨s9, s2, t0, t1, t2, t3⟩ := hSw; go_simp)⟩) hHeld ?_
          simp only [Act.put, List.getElem_toArray, List.getElem_cons_zero, List.getElem_cons_succ, List.setIfInBounds_toArray, List.set_cons_zero, List.set_cons_succ]
          refine wpAnyH_take (i := 5) (v := .agg #[.int .i64 (kd : Int), .int .i64 o0, .int .i64 n0]) rfl (by kernel_rfl) (by kernel_rfl) (by kernel_rfl) (fun _ _ _ h => h.put) (Or.inl ⟨by rfl, (by intro w' hSw; obtain ⟨s9, s2, t0, t1, t2, t3⟩ := hSw; go_simp)⟩) hHeld ?_
          simp only [Act.put, List.getElem_toArray, List.getElem_cons_zero, List.getElem_cons_succ, List.setIfInBounds_toArray, List.set_cons_zero, List.set_cons_succ]
          refine wpAnyH_take (i := 7) (v := .slice (some ⟨b, o, none⟩) evs.length cap) rfl (by kernel_rfl) (by kernel_rfl) (by kernel_rfl) (fun _ _ _ h => h.put) (Or.inl ⟨by rfl, (by intro w' hSw; obtain ⟨s9, s2, t0, t1, t2, t3⟩ := hSw; go_simp)⟩) hHeld ?_
          simp only [Act.put, List.getElem_toArray, List.getElem_cons_zero, List.getElem_cons_succ, List.setIfInBounds_toArray, List.set_cons_zero, List.set_cons_succ]
          refine wpAnyH_take (i := 8) (v := .int .i64 (k : Int)) rfl (by kernel_rfl) (by kernel_rfl) (by kernel_rfl) (fun _ _ _ h => h.put) (Or.inl ⟨by rfl, (by intro w' hSw; obtain ⟨s9, s2, t0, t1, t2, t3⟩ := hSw; go_simp)⟩) hHeld ?_
          simp only [Act.put, List.getElem_toArray, List.getElem_cons_zero, List.getElem_cons_succ, List.setIfInBounds_toArray, List.set_cons_zero, List.set_cons_succ]
          refine wpAnyH_take (i := 9) (v := .pointer (some ⟨b, o + k * 4, none⟩)) rfl (by kernel_rfl) (by kernel_rfl) (by kernel_rfl) (fun _ _ _ h => h.put) (Or.inl ⟨by rfl, (by intro w' hSw; obtain ⟨s9, s2, t0, t1, t2, t3⟩ := hSw; go_simp)⟩) hHeld ?_
          simp only [Act.put, List.getElem_toArray, List.getElem_cons_zero, List.getElem_cons_succ, List.setIfInBounds_toArray, List.set_cons_zero, List.set_cons_succ]
          refine wpAnyH_take (i := 10) (v := .pointer (some ⟨b, o + k * 4, none⟩)) rfl (by kernel_rfl) (by kernel_rfl) (by kernel_rfl) (fun _ _ _ h => h.put) (Or.inl ⟨by rfl, (by intro w' hSw; obtain ⟨s9, s2, t0, t1, t2, t3⟩ := hSw; go_simp)⟩) hHeld ?_
          simp only [Act.put, List.getElem_toArray, List.getElem_cons_zero, List.getElem_cons_succ, List.setIfInBounds_toArray, List.set_cons_zero, List.set_cons_succ]
          refine wpAnyH_take (i := 11) (v := .int .i64 (c : Int)) rfl (by kernel_rfl) (by kernel_rfl) (by kernel_rfl) (fun _ _ _ h => h.put) (Or.inl ⟨by rfl, (by intro w' hSw; obtain ⟨s9, s2, t0, t1, t2, t3⟩ := hSw; go_simp)⟩) hHeld ?_
          simp only [Act.put, List.getElem_toArray, List.getElem_cons_zero, List.getElem_cons_succ, List.setIfInBounds_toArray, List.set_cons_zero, List.set_cons_succ]
          refine wpAnyH_ready (rs := [6]) (by kernel_rfl) (by simp) ?_
          refine AllReadyH.cons rfl (fun K hK => ?_) AllReadyH.nil
          rw [if_pos (by rfl)]
          go_simp
          refine htin.out.mono ?_
          rintro e Z1 ⟨cb, m', rfl, hm', hT1, hF1, hcb⟩
          have hb4 := hbs.out
          refine hK.out _ _ ⟨hF1.cell p9 (by show ¬ X2.heap.size + 1 + 1 = X2.heap.size; omega), hF1.cell p2 hb4.2.2.1, hF1.cell q0 hb4.1, hF1.cell q1 hb4.1, hF1.cell q2 hb4.1, hF1.cell q3 hb4.1⟩ (fun hHeld => ?_)
          clear hK K
          refine wpAnyH_take (i := 12) (v := .pointer (some ⟨cb, 0, none⟩)) rfl (by kernel_rfl) (by kernel_rfl) (by kernel_rfl) (fun _ _ _ h => h.put) (Or.inl ⟨by rfl, (by intro w' hSw; obtain ⟨s9, s2, t0, t1, t2, t3⟩ := hSw; go_simp)⟩) hHeld ?_
          simp only [Act.put, List.getElem_toArray, List.getElem_cons_zero, List.getElem_cons_succ, List.setIfInBounds_toArray, List.set_cons_zero, List.set_cons_succ]
          refine wpAnyH_take (i := 13) (v := .int .i64 (c : Int)) rfl (by kernel_rfl) (by kernel_rfl) (by kernel_rfl) (fun _ _ _ h => h.put) (Or.inl ⟨by rfl, (by intro w' hSw; obtain ⟨s9, s2, t0, t1, t2, t3⟩ := hSw; go_simp)⟩) hHeld ?_
          simp only [Act.put, List.getElem_toArray, List.getElem_cons_zero, List.getElem_cons_succ, List.setIfInBounds_toArray, List.set_cons_zero, List.set_cons_succ]
          refine wpAnyH_done (by kernel_rfl) ⟨rfl, ?_⟩ _
          obtain ⟨FP1, hI2⟩ := (hI1.out.below (below_drew (Below.refl _ Y1))).tin (fun b' hb' => Nat.lt_trans (hSl b' hb') hsz1) (by show _ ≤ Y1.heap.size; omega) (by omega) (by have := hI1.out.mle; omega) hT1 hF1 hcb ⟨by omega, by omega, by omega, by omega, by omega⟩
          have hcell := hI2.cells o0 n0 cb (updW_same _ _ _ _)
          have hOk : OkU (usK evs k o0 n0) := ⟨hgood.out.c, hgood.out.ra, hgood.out.rw, fun u hu => Nat.le_trans (hgood.out.la u hu) (by omega), fun u hu => Nat.le_trans (hgood.out.lw u hu) (by omega)⟩
          have hap := hid_of (fun wb => apart_any cb _ _ (clkAt evs k) wb Z1 hcell hOk (Nat.le_trans hgood.out.ln (by omega)))
          have nb1 : Z1.heap[bn]? = some (.cells (ck (clkAt evs k)).toArray 49 (0, 0)) := (hF1.block _ (Array.getElem?_eq_some_iff.1 n1.out).1 hb4.2.1).trans n1.out
          have zb1 := (hF1.block _ (Array.getElem?_eq_some_iff.1 z1.out).1 hb4.2.2.2).trans z1.out
          obtain ⟨v0, v1, v2⟩ := cells3 zb1
          have rg1 := (grid_one nb1).range (c := 0) (by decide)
          rw [Nat.zero_mul] at rg1
          replace hI2 := hid_of hI2
          replace hF1 := hid_of hF1
          replace hT1 := hid_of hT1
          replace hcb := hid_of hcb
          clear hHeld p9 p2 q0 q1 q2 q3 k0 k1 k2 htin
          have hrA : raceAt evs k = apartU (usK evs k o0 n0) (clkAt evs k) (decide ((kd : Int) = 9)) := by simp [raceAt, hev.out, hu]
          have hG : Hid (∀ b', S b' ∨ b' = X6.heap.size ∨ b' = X6.heap.size + 1 → b' < W.heap.size ∧ b' ≠ X2.heap.size ∧ b' ≠ W1.heap.size) := fun b' hb' => by
            rcases hb' with hb' | hb' | hb'
            · exact ⟨hSl b' hb', fun e => hnS.2.2.2.2 (e ▸ hb'), fun e => hnS.2.1 (e ▸ hb')⟩
            · exact ⟨by omega, by omega, by omega⟩
            · exact ⟨by omega, by omega, by omega⟩
          have hfin : Hid (∀ (Rn : List (Nat × Nat)) (ov' : Value) (Zx : World), RcI w X6.heap.size w.heap.size W1.heap.size (X2.heap.size + 1) (X2.heap.size + 2) X2.heap.size cap (some ⟨b, o, none⟩) evs (k + 1) (usK evs k) Rn S Zx m' (updW f o0 n0 cb) FP1 ov' → (∀ b', S b' ∨ b' = X6.heap.size ∨ b' = X6.heap.size + 1 → Zx.heap[b']? = W.heap[b']?) → W.heap.size ≤ Zx.heap.size → Rn = raceK evs (k + 1) →
              ∀ P0 : Nat → Prop, (∀ b, P0 b → FP1 o0 n0 b) → ∀ wb, decide ((kd : Int) = 9) = wb → ∀ e Z3, UsePost Zx.drew cb (useU (usK evs k o0 n0) c (k, clkAt evs k c) wb) P0 e Z3 → ∀ a'', rPost (RcJ w X6.heap.size w.heap.size W1.heap.size (X2.heap.size + 1) (X2.heap.size + 2) X2.heap.size cap (some ⟨b, o, none⟩) evs) X6.heap.size (some ⟨b, o, none⟩) evs k S W .normal a'' Z3) := by
            intro Rn ov' Zx hIx hkx hsx hRn P0 hP0 wb hwb' e Z3 hpost a''
            obtain ⟨P3, -, hC3, hP3, hF3⟩ := hpost
            replace hF3 := hF3.mono (T := FP1 o0 n0) (fun b hb => .inl (hP0 b hb))
            replace hP3 : ∀ b, P3 b → FP1 o0 n0 b ∨ Zx.drew.heap.size ≤ b := fun b hb => (hP3 b hb).imp (hP0 b) id
            have hId := hIx.below (below_drew (Below.refl _ Zx))
            obtain ⟨FP2, hI4⟩ := hId.use (fun b' hb' => Nat.lt_of_lt_of_le (hSl b' hb') hsx) (by show _ ≤ Zx.heap.size; omega) (by omega) (updW_same _ _ _ _) ⟨by omega, by omega, by omega, by omega, by omega⟩ hC3 hP3 hF3
            have hun : usK evs (k + 1) = updA (usK evs k) o0 n0 (useU (usK evs k o0 n0) c (k, clkAt evs k c) wb) := by
              rw [usK_succ hev.out, stepU, hu]
              simp only [if_true, Int.toNat_natCast, hwb']
            refine ⟨rfl, ⟨m', updW f o0 n0 cb, FP2, ov', ?_⟩, fun b' hb' => ?_, Nat.le_trans hsx hF3.size, hE.out.keep hI4.bel⟩
            · rw [hun, ← hRn]
              exact hI4
            · have hg := hG.out b' hb'
              refine (hF3.block b' (Nat.lt_of_lt_of_le hg.1 hsx) (fun e => ?_)).trans (hkx b' hb')
              have hf := hId.fpB o0 n0 b' (by rw [updW_same]; simp) e
              rcases hb' with hb' | hb' | hb'
              · exact hf.2 hb'
              · omega
              · omega
          have hci : (c : Int) < 16 := by omega
          have hkz : Hid (∀ b', S b' ∨ b' = X6.heap.size ∨ b' = X6.heap.size + 1 → Z1.heap[b']? = W.heap[b']?) := fun b' hb' => by
            have hg := hG.out b' hb'
            exact (hF1.out.block b' (Nat.lt_trans hg.1 hsz1) hg.2.1).trans (hB1.out.block b' hg.1)
          have hsz : W.heap.size ≤ Z1.heap.size := Nat.le_trans (Nat.le_of_lt hsz1) hF1.out.size
          cases hA : apartU (usK evs k o0 n0) (clkAt evs k) (decide ((kd : Int) = 9)) with
          | none =>
            have hRk : Hid (raceK evs k = raceK evs (k + 1)) := by unfold Hid; simp [raceK, hrA, hA]
            rw [hwb.out] at hA
            gi_wp2_with (refine wpListIn_load_mid rfl 49 _ rfl bn 0 rfl (ck (clkAt evs k)) _ rg1 clk_u rfl (by rw [clk_i, ck_len]) ?_)
            refine ⟨trivial, (CallsIn.inRound _ (callsIn_wide.2 (hap.out _))).mono ?_⟩
            rintro e Z2 ⟨rfl, hb2⟩
            rw [hA]
            have hI3 := hid_of (hI2.out.below hb2)
            have nbk := (hb2.block _ (Array.getElem?_eq_some_iff.1 nb1).1).trans nb1
            have zbk := (hb2.block _ (Array.getElem?_eq_some_iff.1 zb1).1).trans zb1
            have nb2 := stay hb2 v2
            have nc := (grid_one nbk).cell (c := 0) (i := c) (by decide) hc
            rw [Nat.zero_mul, Nat.zero_add] at nc
            have hfin' := hid_of (hfin.out _ _ Z2 hI3.out (fun b' hb' => (hb2.block b' (Nat.lt_of_lt_of_le (hG.out b' hb').1 hsz)).trans (hkz.out b' hb')) (Nat.le_trans hsz hb2.size) hRk.out)
            obtain ⟨P0, hC0, hP0s, hP0t⟩ := ((hI3.out.below (below_drew (Below.refl _ Z2))).cells o0 n0 cb (updW_same _ _ _ _)).shrink
            have hus := hid_of (use_any cb _ P0 c (k, clkAt evs k c) true Z2.drew hC0 (Nat.le_trans hgood.out.ln (by omega)) (fun v hv => ⟨Nat.le_trans (hgood.out.la v hv) (by omega), Nat.le_trans (hgood.out.lw v hv) (by omega)⟩))
            have hfpn : Hid (¬ P0 bn ∧ ¬ P0 W.heap.size) := ⟨fun e => by
              obtain ⟨cs, t, h1, h2⟩ := hP0t _ e
              have h1 : Z2.heap[bn]? = _ := h1
              rw [nbk] at h1
              cases h1
              revert h2
              decide, fun e => by
              obtain ⟨cs, t, h1, h2⟩ := hP0t _ e
              have h1 : Z2.heap[W.heap.size]? = _ := h1
              rw [zbk] at h1
              cases h1
              revert h2
              decide⟩
            replace hP0s := hid_of hP0s
            clear hP0t hC0
            replace hb2 := hid_of hb2
            clear v0 v1 v2 rg1 nb1 zb1 hap nbk zbk hfin hkz hrA hA hOk hcell
            unfold unkV
            gi_wp2_with fail
            refine region_round (fun W' => W'.cell? ⟨bn, c, none⟩ = some (.int .i32 (clkAt evs k c : Nat)) ∧ W'.cell? ⟨W.heap.size, 2, none⟩ = some (.bool true)) hmix (by kernel_rfl) ⟨nc, nb2⟩ (fun hHeld => ?_)
            refine wpAnyH_take (i := 0) (v := .pointer (some ⟨cb, 0, none⟩)) rfl (by kernel_rfl) (by kernel_rfl) (by kernel_rfl) (fun _ _ _ h => h.put) (Or.inl ⟨by rfl, (by intro w' hSw; obtain ⟨sc, sb⟩ := hSw; go_simp)⟩) hHeld ?_
            simp only [Act.put, List.getElem_toArray, List.getElem_cons_zero, List.setIfInBounds_toArray, List.set_cons_zero, List.set_cons_succ]
            refine wpAnyH_take (i := 1) (v := .int .i64 (c : Int)) rfl (by kernel_rfl) (by kernel_rfl) (by kernel_rfl) (fun _ _ _ h => h.put) (Or.inl ⟨by rfl, (by intro w' hSw; obtain ⟨sc, sb⟩ := hSw; go_simp)⟩) hHeld ?_
            simp only [Act.put, List.getElem_toArray, List.getElem_cons_zero, List.getElem_cons_succ, List.setIfInBounds_toArray, List.set_cons_zero, List.set_cons_succ]
            refine wpAnyH_take (i := 2) (v := .int .i64 (k : Int)) rfl (by kernel_rfl) (by kernel_rfl) (by kernel_rfl) (fun _ _ _ h => h.put) (Or.inl ⟨by rfl, (by intro w' hSw; obtain ⟨sc, sb⟩ := hSw; go_simp)⟩) hHeld ?_
            simp only [Act.put, List.getElem_toArray, List.getElem_cons_zero, List.getElem_cons_succ, List.setIfInBounds_toArray, List.set_cons_zero, List.set_cons_succ]
            refine wpAnyH_take (i := 3) (v := .int .i64 (c : Int)) rfl (by kernel_rfl) (by kernel_rfl) (by kernel_rfl) (fun _ _ _ h => h.put) (Or.inl ⟨by rfl, (by intro w' hSw; obtain ⟨sc, sb⟩ := hSw; go_simp)⟩) hHeld ?_
            simp only [Act.put, List.getElem_toArray, List.getElem_cons_zero, List.getElem_cons_succ, List.setIfInBounds_toArray, List.set_cons_zero, List.set_cons_succ]
            refine wpAnyH_take (i := 4) (v := .pointer (some ⟨bn, c, none⟩)) rfl (by kernel_rfl) (by kernel_rfl) (by kernel_rfl) (fun _ _ _ h => h.put) (Or.inl ⟨by rfl, (by intro w' hSw; obtain ⟨sc, sb⟩ := hSw; go_simp)⟩) hHeld ?_
            simp only [Act.put, List.getElem_toArray, List.getElem_cons_zero, List.getElem_cons_succ, List.setIfInBounds_toArray, List.set_cons_zero, List.set_cons_succ]
            refine wpAnyH_take (i := 5) (v := .int .i32 (clkAt evs k c : Nat)) rfl (by kernel_rfl) (by kernel_rfl) (by kernel_rfl) (fun _ _ _ h => h.put) (Or.inl ⟨by rfl, (by intro w' hSw; obtain ⟨sc, sb⟩ := hSw; go_simp)⟩) hHeld ?_
            simp only [Act.put, List.getElem_toArray, List.getElem_cons_zero, List.getElem_cons_succ, List.setIfInBounds_toArray, List.set_cons_zero, List.set_cons_succ]
            refine wpAnyH_take (i := 6) (v := .agg #[.int .i64 (k : Int), .int .i32 (clkAt evs k c : Nat)]) rfl (by kernel_rfl) (by kernel_rfl) (by kernel_rfl) (fun _ _ _ h => h.put) (Or.inl ⟨by rfl, (by intro w' hSw; obtain ⟨sc, sb⟩ := hSw; go_simp)⟩) hHeld ?_
            simp only [Act.put, List.getElem_toArray, List.getElem_cons_zero, List.getElem_cons_succ, List.setIfInBounds_toArray, List.set_cons_zero, List.set_cons_succ]
            refine wpAnyH_take (i := 7) (v := .pointer (some ⟨W.heap.size, 2, none⟩)) rfl (by kernel_rfl) (by kernel_rfl) (by kernel_rfl) (fun _ _ _ h => h.put) (Or.inl ⟨by rfl, (by intro w' hSw; obtain ⟨sc, sb⟩ := hSw; go_simp)⟩) hHeld ?_
            simp only [Act.put, List.getElem_toArray, List.getElem_cons_zero, List.getElem_cons_succ, List.setIfInBounds_toArray, List.set_cons_zero, List.set_cons_succ]
            refine wpAnyH_take (i := 8) (v := .bool true) rfl (by kernel_rfl) (by kernel_rfl) (by kernel_rfl) (fun _ _ _ h => h.put) (Or.inl ⟨by rfl, (by intro w' hSw; obtain ⟨sc, sb⟩ := hSw; go_simp)⟩) hHeld ?_
            simp only [Act.put, List.getElem_toArray, List.getElem_cons_zero, List.getElem_cons_succ, List.setIfInBounds_toArray, List.set_cons_zero, List.set_cons_succ]
            refine wpAnyH_ready (rs := [9]) (by kernel_rfl) (by simp) ?_
            refine AllReadyH.cons rfl (fun K hK => ?_) AllReadyH.nil
            rw [if_pos (by rfl)]
            go_simp
            refine hus.out.mono ?_
            rintro e Z3 hpost
            have hpost' := hid_of hpost
            obtain ⟨P3, rfl, -, -, hF3⟩ := hpost
            refine hK.out _ _ ⟨hF3.cell nc hfpn.out.1, hF3.cell nb2 hfpn.out.2⟩ (fun hHeld => ?_)
            clear hK K
            refine wpAnyH_done (by kernel_rfl) ⟨rfl, ?_⟩ _
            gi_wp2_with fail
            first | exact hfin'.out P0 hP0s.out _ hwb.out _ _ hpost'.out _ | (rw [← hl5.out.2.2]; exact hfin'.out P0 hP0s.out _ hwb.out _ _ hpost'.out _)
          | some i =>
            have hRk : Hid (raceK evs k ++ [(i, k)] = raceK evs (k + 1)) := by unfold Hid; simp [raceK, hrA, hA]
            have hlenR := raceK_len evs k
            rw [hwb.out] at hA
            gi_wp2_with (refine wpListIn_load_mid rfl 49 _ rfl bn 0 rfl (ck (clkAt evs k)) _ rg1 clk_u rfl (by rw [clk_i, ck_len]) ?_)
            refine ⟨trivial, (CallsIn.inRound _ (callsIn_wide.2 (hap.out _))).mono ?_⟩
            rintro e Z1' ⟨rfl, hb2⟩
            rw [hA]
            have hI3 := hid_of (hI2.out.below hb2)
            have nbk0 := (hb2.block _ (Array.getElem?_eq_some_iff.1 nb1).1).trans nb1
            have zbk0 := (hb2.block _ (Array.getElem?_eq_some_iff.1 zb1).1).trans zb1
            have hob0 : Z1'.cell? ⟨W1.heap.size, 0, none⟩ = some ov := by simp [World.cell?, hI3.out.out]
            obtain ⟨Zn, hZn⟩ : ∃ Zn, Hid (Z1'.alloc (.cells #[.int .i64 (i : Int), .int .i64 (k : Int)] 75) = Zn) := ⟨_, rfl⟩
            have hBn : Below Z1'.heap.size Z1' Zn := by rw [← hZn.out]; exact (Below.refl _ Z1').alloc (Nat.le_refl _) _
            have zn : Zn.heap[Z1'.heap.size]? = some (.cells #[.int .i64 (i : Int), .int .i64 (k : Int)] 75 (0, 0)) := by rw [← hZn.out]; exact heap_alloc_new Z1' _
            obtain ⟨ri, hri, hri1, hri2, hri3⟩ : ∃ ri, Try.prog.info? 75 = some ri ∧ ri.zero = some (.agg #[.int .i64 0, .int .i64 0]) ∧ ri.size = 2 ∧ ri.bytes = 16 := by
              have := race_i
              cases hq : Try.prog.info? 75 with
              | none => rw [hq] at this; cases this
              | some ri => rw [hq] at this; simp at this; exact ⟨ri, rfl, this.1, this.2.1, this.2.2⟩
            have hown : Zn.ownsRow 0 75 2 ov (raceK evs k).length (flatR (raceK evs k)) := ownsRow_keep hI3.out.rows (fun g hg => hBn.block g (ownsRow_lt hI3.out.rows hg).1)
            have hnews : ∀ j u, [Value.int .i64 (i : Int), .int .i64 (k : Int)][j]? = some u → Zn.cell? ((⟨Z1'.heap.size, 0, none⟩ : Addr).add j) = some u := fun j u hj => by
              rcases j with _ | _ | j
              · simp at hj; subst hj; simp [World.cell?, Addr.add, zn]
              · simp at hj; subst hj; simp [World.cell?, Addr.add, zn]
              · simp at hj
            have hun31 : Try.prog.underlying 41 = some (.slice 75) := by kernel_rfl
            have hrace := hid_of (fun (w4 : World) (g4 c4' : Nat) h1 h2 h3 h4 => hI3.out.race (W1 := Zn) (w4 := w4) (g4 := g4) (c4 := c4') (u := (i, k)) (fun b' hb' => Nat.lt_of_lt_of_le (hSl b' hb') (Nat.le_trans hsz hb2.size)) (by have := hb2.size; omega) (by omega) ⟨by omega, by omega, by omega, by omega, by omega⟩ ⟨by omega, by omega, by omega, by omega⟩ hBn h1 h2 h3 h4)
            have hovn : Hid (ov.ownBlock ≠ some bn ∧ ov.ownBlock ≠ some W.heap.size) := by
              refine ⟨fun e => ?_, fun e => ?_⟩
              · obtain ⟨_, cur, hc'⟩ := ownsRow_lt hI3.out.rows e
                rw [nbk0] at hc'
                cases hc'
              · have := ovl.out _ e
                omega
            have hovG : Hid (∀ b', S b' ∨ b' = X6.heap.size ∨ b' = X6.heap.size + 1 → ov.ownBlock ≠ some b') := fun b' hb' e => by
              have hg := hI3.out.ovB b' e
              rcases hb' with hb' | hb' | hb'
              · exact hg.2.1 hb'
              · omega
              · omega
            unfold unkV
            gi_wp2_with (first | rw [hZn.out] | (refine wpListIn_append_lies rfl _ _ 41 rfl 0 75 ri _ 2 16 hun31 hri hri1 hri2 hri3 rfl (by decide) ov _ _ rfl hown ⟨Z1'.heap.size, 0, none⟩ 1 1 _ rfl rfl hnews (by simp [Value.oneCell']) (by decide) (by unfold maxLen; omega) (by omega) (Nat.zero_le _) _ rfl ?_; intro g4 c4' w4 r1 r2 r3 r4; obtain ⟨⟨e1, e2⟩, hI5, hk5, hs5⟩ := hrace.out w4 g4 c4' r1 r2 r3 r4))
            generalize w4.setCell ⟨W1.heap.size, 0, none⟩ (.slice (some ⟨g4, 0, none⟩) ((raceK evs k).length + 1) c4') = Z2 at hI5 hk5 hs5 ⊢
            have hsb := hb2.size
            have nbk := (hk5 bn (Array.getElem?_eq_some_iff.1 nbk0).1 (by omega) hovn.out.1).trans nbk0
            have zbk := (hk5 W.heap.size (Array.getElem?_eq_some_iff.1 zbk0).1 (by omega) hovn.out.2).trans zbk0
            have nb2 := (cells3 zbk).2.2
            have nc := (grid_one nbk).cell (c := 0) (i := c) (by decide) hc
            rw [Nat.zero_mul, Nat.zero_add] at nc
            have hfin' := hid_of (hfin.out _ _ Z2 hI5 (fun b' hb' => (hk5 b' (Nat.lt_of_lt_of_le (hG.out b' hb').1 (Nat.le_trans hsz hsb)) (hG.out b' hb').2.2 (hovG.out b' hb')).trans ((hb2.block b' (Nat.lt_of_lt_of_le (hG.out b' hb').1 hsz)).trans (hkz.out b' hb'))) (Nat.le_trans (Nat.le_trans hsz hsb) hs5) hRk.out)
            replace hI3 := hid_of hI5
            obtain ⟨P0, hC0, hP0s, hP0t⟩ := ((hI3.out.below (below_drew (Below.refl _ Z2))).cells o0 n0 cb (updW_same _ _ _ _)).shrink
            have hus := hid_of (use_any cb _ P0 c (k, clkAt evs k c) true Z2.drew hC0 (Nat.le_trans hgood.out.ln (by omega)) (fun v hv => ⟨Nat.le_trans (hgood.out.la v hv) (by omega), Nat.le_trans (hgood.out.lw v hv) (by omega)⟩))
            have hfpn : Hid (¬ P0 bn ∧ ¬ P0 W.heap.size) := ⟨fun e => by
              obtain ⟨cs, t, h1, h2⟩ := hP0t _ e
              have h1 : Z2.heap[bn]? = _ := h1
              rw [nbk] at h1
              cases h1
              revert h2
              decide, fun e => by
              obtain ⟨cs, t, h1, h2⟩ := hP0t _ e
              have h1 : Z2.heap[W.heap.size]? = _ := h1
              rw [zbk] at h1
              cases h1
              revert h2
              decide⟩
            replace hP0s := hid_of hP0s
            clear hP0t hC0
            clear v0 v1 v2 rg1 nb1 zb1 hap nbk zbk nbk0 zbk0 hfin hkz hrA hA hOk hcell hI5 hk5 hs5 r1 r2 r3 r4 e1 e2 hown hnews hrace zn hBn hZn hob0 hri hri1 hri2 hri3 hun31
            refine region_round (fun W' => W'.cell? ⟨bn, c, none⟩ = some (.int .i32 (clkAt evs k c : Nat)) ∧ W'.cell? ⟨W.heap.size, 2, none⟩ = some (.bool true)) hmix (by kernel_rfl) ⟨nc, nb2⟩ (fun hHeld => ?_)
            refine wpAnyH_take (i := 0) (v := .pointer (some ⟨cb, 0, none⟩)) rfl (by kernel_rfl) (by kernel_rfl) (by kernel_rfl) (fun _ _ _ h => h.put) (Or.inl ⟨by rfl, (by intro w' hSw; obtain ⟨sc, sb⟩ := hSw; go_simp)⟩) hHeld ?_
            simp only [Act.put, List.getElem_toArray, List.getElem_cons_zero, List.setIfInBounds_toArray, List.set_cons_zero, List.set_cons_succ]
            refine wpAnyH_take (i := 1) (v := .int .i64 (c : Int)) rfl (by kernel_rfl) (by kernel_rfl) (by kernel_rfl) (fun _ _ _ h => h.put) (Or.inl ⟨by rfl, (by intro w' hSw; obtain ⟨sc, sb⟩ := hSw; go_simp)⟩) hHeld ?_
            simp only [Act.put, List.getElem_toArray, List.getElem_cons_zero, List.getElem_cons_succ, List.setIfInBounds_toArray, List.set_cons_zero, List.set_cons_succ]
            refine wpAnyH_take (i := 2) (v := .int .i64 (k : Int)) rfl (by kernel_rfl) (by kernel_rfl) (by kernel_rfl) (fun _ _ _ h => h.put) (Or.inl ⟨by rfl, (by intro w' hSw; obtain ⟨sc, sb⟩ := hSw; go_simp)⟩) hHeld ?_
            simp only [Act.put, List.getElem_toArray, List.getElem_cons_zero, List.getElem_cons_succ, List.setIfInBounds_toArray, List.set_cons_zero, List.set_cons_succ]
            refine wpAnyH_take (i := 3) (v := .int .i64 (c : Int)) rfl (by kernel_rfl) (by kernel_rfl) (by kernel_rfl) (fun _ _ _ h => h.put) (Or.inl ⟨by rfl, (by intro w' hSw; obtain ⟨sc, sb⟩ := hSw; go_simp)⟩) hHeld ?_
            simp only [Act.put, List.getElem_toArray, List.getElem_cons_zero, List.getElem_cons_succ, List.setIfInBounds_toArray, List.set_cons_zero, List.set_cons_succ]
            refine wpAnyH_take (i := 4) (v := .pointer (some ⟨bn, c, none⟩)) rfl (by kernel_rfl) (by kernel_rfl) (by kernel_rfl) (fun _ _ _ h => h.put) (Or.inl ⟨by rfl, (by intro w' hSw; obtain ⟨sc, sb⟩ := hSw; go_simp)⟩) hHeld ?_
            simp only [Act.put, List.getElem_toArray, List.getElem_cons_zero, List.getElem_cons_succ, List.setIfInBounds_toArray, List.set_cons_zero, List.set_cons_succ]
            refine wpAnyH_take (i := 5) (v := .int .i32 (clkAt evs k c : Nat)) rfl (by kernel_rfl) (by kernel_rfl) (by kernel_rfl) (fun _ _ _ h => h.put) (Or.inl ⟨by rfl, (by intro w' hSw; obtain ⟨sc, sb⟩ := hSw; go_simp)⟩) hHeld ?_
            simp only [Act.put, List.getElem_toArray, List.getElem_cons_zero, List.getElem_cons_succ, List.setIfInBounds_toArray, List.set_cons_zero, List.set_cons_succ]
            refine wpAnyH_take (i := 6) (v := .agg #[.int .i64 (k : Int), .int .i32 (clkAt evs k c : Nat)]) rfl (by kernel_rfl) (by kernel_rfl) (by kernel_rfl) (fun _ _ _ h => h.put) (Or.inl ⟨by rfl, (by intro w' hSw; obtain ⟨sc, sb⟩ := hSw; go_simp)⟩) hHeld ?_
            simp only [Act.put, List.getElem_toArray, List.getElem_cons_zero, List.getElem_cons_succ, List.setIfInBounds_toArray, List.set_cons_zero, List.set_cons_succ]
            refine wpAnyH_take (i := 7) (v := .pointer (some ⟨W.heap.size, 2, none⟩)) rfl (by kernel_rfl) (by kernel_rfl) (by kernel_rfl) (fun _ _ _ h => h.put) (Or.inl ⟨by rfl, (by intro w' hSw; obtain ⟨sc, sb⟩ := hSw; go_simp)⟩) hHeld ?_
            simp only [Act.put, List.getElem_toArray, List.getElem_cons_zero, List.getElem_cons_succ, List.setIfInBounds_toArray, List.set_cons_zero, List.set_cons_succ]
            refine wpAnyH_take (i := 8) (v := .bool true) rfl (by kernel_rfl) (by kernel_rfl) (by kernel_rfl) (fun _ _ _ h => h.put) (Or.inl ⟨by rfl, (by intro w' hSw; obtain ⟨sc, sb⟩ := hSw; go_simp)⟩) hHeld ?_
            simp only [Act.put, List.getElem_toArray, List.getElem_cons_zero, List.getElem_cons_succ, List.setIfInBounds_toArray, List.set_cons_zero, List.set_cons_succ]
            refine wpAnyH_ready (rs := [9]) (by kernel_rfl) (by simp) ?_
            refine AllReadyH.cons rfl (fun K hK => ?_) AllReadyH.nil
            rw [if_pos (by rfl)]
            go_simp
            refine hus.out.mono ?_
            rintro e Z3 hpost
            have hpost' := hid_of hpost
            obtain ⟨P3, rfl, -, -, hF3⟩ := hpost
            refine hK.out _ _ ⟨hF3.cell nc hfpn.out.1, hF3.cell nb2 hfpn.out.2⟩ (fun hHeld => ?_)
            clear hK K
            refine wpAnyH_done (by kernel_rfl) ⟨rfl, ?_⟩ _
            gi_wp2_with fail
            first | exact hfin'.out P0 hP0s.out _ hwb.out _ _ hpost'.out _ | (rw [← hl5.out.2.2]; exact hfin'.out P0 hP0s.out _ hwb.out _ _ hpost'.out _)
      · have hno : Hid (∀ W', Below W.heap.size W W' → ∀ a'', rPost (RcJ w X6.heap.size w.heap.size W1.heap.size (X2.heap.size + 1) (X2.heap.size + 2) X2.heap.size cap (some ⟨b, o, none⟩) evs) X6.heap.size (some ⟨b, o, none⟩) evs k S W .normal a'' W') := fun W' hB a'' => by
          have hnu : isUse ⟨(c : Int), (kd : Int), o0, n0⟩ = false := by simp [isUse]; omega
          refine ⟨rfl, ⟨m, f, FP, ov, ?_⟩, fun b' hb' => hB.block b' ?_, hB.size, hEv.keep hB⟩
          · have h1 : usK evs (k + 1) = usK evs k := by rw [usK_succ hev.out, stepU, hnu]; rfl
            have h2 : raceK evs (k + 1) = raceK evs k := by simp [raceK, raceAt, hev.out, hnu]
            rw [h1, h2]
            exact (hI.below hB).next
          · rcases hb' with hb' | hb' | hb'
            · exact hSl b' hb'
            · omega
            · omega
        by_cases hk7 : kd ≤ 7
        · obtain ⟨g, g0, g1, g2⟩ := kinds_fn ⟨hkd.1, hk7⟩
          have r0 : W.cell? ⟨X2.heap.size + 1, kd * 3, none⟩ = some (.func (.func g) #[] #[]) := by simp [World.cell?, hI.ks, g0]
          have r1 : W.cell? ⟨X2.heap.size + 1, kd * 3 + 1, none⟩ = some (.bool false) := by simp [World.cell?, hI.ks, g1]
          have r2 : W.cell? ⟨X2.heap.size + 1, kd * 3 + 2, none⟩ = some (.bool false) := by simp [World.cell?, hI.ks, g2]
          obtain ⟨Y1, hY1⟩ : ∃ Y1, Hid (W.alloc (.cells #[.func (.func g) #[] #[], .bool false, .bool false] 64) = Y1) := ⟨_, rfl⟩
          have hB1 : Below W.heap.size W Y1 := by rw [← hY1.out]; exact (Below.refl _ W).alloc (Nat.le_refl _) _
          have z1 : Y1.heap[W.heap.size]? = some (.cells #[.func (.func g) #[] #[], .bool false, .bool false] 64 (0, 0)) := by rw [← hY1.out]; exact heap_alloc_new W _
          obtain ⟨k0, k1, k2⟩ := cells3 z1
          clear g0 g1 g2 hI hEv hbn2
          gi_wp2_with (rw [hY1.out])
          exact hno.out _ hB1 _
        · obtain ⟨g0, g1, g2⟩ := kinds_no (kd := kd) (by omega)
          have e8 : (kd == 8) = false := by simp; omega
          have e9 : (kd == 9) = false := by simp; omega
          rw [e8] at g1
          rw [e9] at g2
          have r0 : W.cell? ⟨X2.heap.size + 1, kd * 3, none⟩ = some .nilFunc := by simp [World.cell?, hI.ks, g0]
          have r1 : W.cell? ⟨X2.heap.size + 1, kd * 3 + 1, none⟩ = some (.bool false) := by simp [World.cell?, hI.ks, g1]
          have r2 : W.cell? ⟨X2.heap.size + 1, kd * 3 + 2, none⟩ = some (.bool false) := by simp [World.cell?, hI.ks, g2]
          have hB1 : Below W.heap.size W (W.alloc (.cells #[.nilFunc, .bool false, .bool false] 64)) := (Below.refl _ W).alloc (Nat.le_refl _) _
          clear g0 g1 g2 hI hEv hbn2
          gi_wp2_with fail
          exact hno.out _ hB1 _
    case done =>
      intro S W hI hd
      obtain ⟨m, f, FP, ov, hI⟩ := hI
      have y0 : W.cell? ⟨W1.heap.size, 0, none⟩ = some ov := by simp [World.cell?, hI.out]
      have h4 := hl5.out
      have hrow : Hid (W.ownsRow w.heap.size 75 2 ov (raceK evs evs.length).length (flatR (raceK evs evs.length))) := by
        have hr := hI.rows
        have hb := hI.ovB
        obtain ⟨q1, q2 | ⟨g, c, cur, q2, q3, q4⟩⟩ := hr
        · exact ⟨q1, .inl q2⟩
        · refine ⟨q1, .inr ⟨g, c, cur, q2, ?_, q4⟩⟩
          have := (hb g (by rw [q2]; rfl)).1
          omega
      have hob : Hid (∀ g, ov.ownBlock = some g → X6.heap.size + 2 ≤ g) := fun g hg => (hI.ovB g hg).1
      have hbel := hid_of hI.bel
      clear hI
      go_wp2_with fail
      refine ⟨by simp, .inl ⟨_, _, rfl, run_takeDeferred hd, ?_⟩⟩
      refine ⟨.tuple #[ov, .int .i64 0], by simp [results, Try.results16, go_sem], hbel.out.trans ((Below.refl _ W).grown (grownBy_putObj' W _ _) hbel.out.size (fun k e => by cases e; omega)), .inr ⟨h0, ov, rfl, ownsRow_keep hrow.out (fun g hg => World.putObj_heap_other (by have := hob.out g hg; omega))⟩⟩
  · have hne : (chk evs clients != 0) = true := by simp [h0]
    obtain ⟨v, hv⟩ : ∃ v, Hid (chk evs clients = v) := ⟨_, rfl⟩
    rw [hv.out] at hne h0 ⊢
    go_wp2_with fail
    exact ⟨.tuple #[.slice none 0 0, .int .i64 v], by simp [results, Try.results16, go_sem], hB1, .inl ⟨by rw [hv.out]; exact h0, by rw [hv.out]⟩⟩
end Go.Proofs.Ytdgdfpgekccibab
