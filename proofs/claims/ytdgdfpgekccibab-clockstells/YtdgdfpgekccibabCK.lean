import Derived.Test.YtdgdfpgekccibabCJ
import Derived.Stop.RegionWithIn
/-! clocks: Clocks. -/
namespace Go.Proofs.Ytdgdfpgekccibab
open Go Go.RowKit Go.Shelf
attribute [local go_sem] Oper.semAt_some
theorem wpListIn_store_row {F : Fence} {nF : Nat} {P : Program} {ops : Array Oper} {rest : List Oper} {o : Oper} {a : Act} {w : World} {Q : Exit → Act → World → Prop} (hgd : o.guard = none) (ty : TypeId) (x y : Operand) (ho : o.op = .store ty x y)
    (g : Nat) (cells : Array Value) (hx : a.eval x = .pointer (some ⟨g, 0, none⟩)) (hy : a.eval y = .agg cells)
    (t : TypeId) (old : Array Value) (hg : w.heap[g]? = some (.cells old t (0, 0))) (hi : (P.info? ty).map (·.size) = some cells.size)
    (hold : old.size = cells.size) (h1 : cells.all (·.oneCell') = true)
    (h : wpListIn F nF P ops Q rest (a.put o.dst undef) (w.setRow g cells)) : wpListIn F nF P ops Q (o :: rest) a w := by
  refine wpListIn_plain hgd fun K' hK' => ?_
  unfold Oper.wpIn
  refine ⟨by simp [Oper.about, ho], ?_⟩
  rw [Oper.semAt_plain F _ _ (by rw [ho]; intro c hc'; cases hc')]
  unfold execOp
  simp only [ho, hx, hy, Instr.storeAt, Instr.sureAddr, Sem.run_bind, Sem.run_pure, Result.andThen_ok, run_storeVar_row w g t ty old cells hg hi hold h1]
  exact hK' _ _ h
/-- Clocks as they are told: the list lies in g, the counts of event j in G j. -/
structure ClksAt (w : World) (base g N nc : Nat) (evs : List Ev) (G : Nat → Nat) : Prop where
  lo : base ≤ g
  row : w.rowIs g 39 N (fun j => .slice (some ⟨G j, 0, none⟩) nc nc)
  each : ∀ j, j < N → base ≤ G j ∧ G j ≠ g ∧ w.rowIs (G j) 3 nc (cnt (clkAt evs j))
  inj : ∀ i j, i < N → j < N → G i = G j → i = j
/-- Clocks under way: k of them are there. -/
structure CkI (w0 : World) (B bo bc g N nc : Nat) (evs : List Ev) (k : Nat) (S : Nat → Prop) (W : World) (G : Nat → Nat) : Prop where
  out : W.heap[bo]? = some (.cells #[.slice (some ⟨g, 0, none⟩) N N] 30 (0, 0))
  cli : W.heap[bc]? = some (.cells #[.int .i64 (nc : Int)] 3 (0, 0))
  row : W.rowIs g 39 N (fun j => if j < k then .slice (some ⟨G j, 0, none⟩) nc nc else .slice none 0 0)
  each : ∀ j, j < k → B + 2 ≤ G j ∧ ¬ S (G j) ∧ W.rowIs (G j) 3 nc (cnt (clkAt evs j))
  inj : ∀ i j, i < k → j < k → G i = G j → i = j
  nS : ¬ S bo ∧ ¬ S bc ∧ ¬ S g
  low : ∀ b, S b → w0.heap.size ≤ b
  bel : Below w0.heap.size w0 W
  siz : B ≤ W.heap.size
theorem CkI.abid (w0 : World) (B bo bc g N nc : Nat) (evs : List Ev) : Abid (fun k S W => ∃ G, CkI w0 B bo bc g N nc evs k S W G) := fun k S S' W W' h hf hS => by
  obtain ⟨G, h⟩ := h
  have hno : ∀ b, b < W.heap.size → ¬ S b → ¬ S' b := fun b hb hn e => by
    rcases hS b e with e | e
    · exact hn e
    · omega
  have l1 := (Array.getElem?_eq_some_iff.1 h.out).1
  have l2 := (Array.getElem?_eq_some_iff.1 h.cli).1
  refine ⟨G, (hf.block _ l1 h.nS.1).trans h.out, (hf.block _ l2 h.nS.2.1).trans h.cli, h.row.of_block (hf.block _ h.row.lt h.nS.2.2), fun j hj => ?_, h.inj, ⟨hno _ l1 h.nS.1, hno _ l2 h.nS.2.1, hno _ h.row.lt h.nS.2.2⟩, fun b hb => ?_, ?_, Nat.le_trans h.siz hf.size⟩
  · obtain ⟨e1, e2, e3⟩ := h.each j hj
    exact ⟨e1, hno _ e3.lt e2, e3.of_block (hf.block _ e3.lt e2)⟩
  · rcases hS b hb with e | e
    · exact h.low b e
    · have := h.bel.size; omega
  · exact h.bel.trans (hf.below h.bel.size h.low)
theorem CkI.other {w0 : World} {B bo bc g N nc : Nat} {evs : List Ev} {k : Nat} {S : Nat → Prop} {W W' : World} {G : Nat → Nat} (h : CkI w0 B bo bc g N nc evs k S W G) {l : Nat} (hl : w0.heap.size ≤ l) (hbo : bo ≠ l) (hbc : bc ≠ l) (hg : g ≠ l) (hG : l ≤ B + 1) (hs : W.heap.size ≤ W'.heap.size) (hos : W'.os = W.os ∧ W'.tape = W.tape ∧ W'.output = W.output) (hk : ∀ b, b ≠ l → W'.heap[b]? = W.heap[b]?) : CkI w0 B bo bc g N nc evs k S W' G :=
  ⟨(hk _ hbo).trans h.out, (hk _ hbc).trans h.cli, h.row.of_block (hk _ hg), fun j hj => ⟨(h.each j hj).1, (h.each j hj).2.1, (h.each j hj).2.2.of_block (hk _ (by have := (h.each j hj).1; omega))⟩, h.inj, h.nS, h.low, h.bel.trans ⟨hos.1, hos.2.1, hos.2.2, hs, fun b hb => hk b (by omega)⟩, Nat.le_trans h.siz hs⟩
theorem clkAt_le (evs : List Ev) (k : Nat) (hk : k < evs.length) (hl : evs.length ≤ 1048576) (i : Nat) : clkAt evs k i ≤ 1048576 := by
  have hbd := (runS_bdk evs (k + 1) (by omega)).1 (evs[k]).c.toNat i
  have he : evs[k]? = some evs[k] := List.getElem?_eq_getElem hk
  rw [runS_take he] at hbd
  have e : clkAt evs k = nowOf (runS (evs.take k)) evs[k] := by unfold clkAt; rw [he]
  rw [e]
  simp only [stepS, upd_same] at hbd
  omega
/-- One more is there. -/
theorem CkI.next {w0 : World} {B bo bc g N nc : Nat} {evs : List Ev} {k : Nat} {S : Nat → Prop} {W W2 : World} {G : Nat → Nat} {gj : Nat} (h : CkI w0 B bo bc g N nc evs k S W G) (hk : k < N) (hB : B + 1 < W.heap.size) (hSl : ∀ b, S b → b < W.heap.size) (hbo : w0.heap.size ≤ g ∧ g < B) (hne : bo ≠ g ∧ bc ≠ g)
    (h1 : Below W.heap.size W W2) (h2 : W.heap.size ≤ gj) (h3 : W2.rowIs gj 3 nc (cnt (clkAt evs k))) :
    ∃ G', CkI w0 B bo bc g N nc evs (k + 1) S (W2.setCell ⟨g, k, none⟩ (.slice (some ⟨gj, 0, none⟩) nc nc)) G' := by
  have hko : ∀ b, b ≠ g → (W2.setCell ⟨g, k, none⟩ (.slice (some ⟨gj, 0, none⟩) nc nc)).heap[b]? = W2.heap[b]? := fun b hb => Below.heap_setCell _ _ _ _ hb
  have l1 := (Array.getElem?_eq_some_iff.1 h.out).1
  have l2 := (Array.getElem?_eq_some_iff.1 h.cli).1
  have hold : ∀ j, j < k → G j < W.heap.size := fun j hj => (h.each j hj).2.2.lt
  refine ⟨fun j => if j < k then G j else gj, (hko _ hne.1).trans ((h1.block _ l1).trans h.out), (hko _ hne.2).trans ((h1.block _ l2).trans h.cli), ?_, fun j hj => ?_, fun i j hi hj e => ?_, h.nS, h.low, ?_, ?_⟩
  · refine ((h.row.of_block (h1.block _ h.row.lt)).set k (.slice (some ⟨gj, 0, none⟩) nc nc)).congr (fun j _ => ?_)
    by_cases e : j = k
    · subst e; simp
    · by_cases e2 : j < k
      · simp [e, e2, show j < k + 1 by omega]
      · simp [e, e2, show ¬ j < k + 1 by omega]
  · by_cases e : j < k
    · obtain ⟨e1, e2, e3⟩ := h.each j e
      simp only [e, if_true]
      exact ⟨e1, e2, (e3.of_block (h1.block _ e3.lt)).of_block (hko _ (by omega))⟩
    · obtain rfl : j = k := by omega
      simp only [Nat.lt_irrefl, if_false]
      exact ⟨by omega, fun e => by have := hSl _ e; omega, h3.of_block (hko _ (by omega))⟩
  · by_cases e1 : i < k <;> by_cases e2 : j < k <;> simp only [e1, e2, if_true, if_false] at e
    · exact h.inj i j e1 e2 e
    · have := hold i e1; omega
    · have := hold j e2; omega
    · omega
  · exact (h.bel.trans (h1.mono h.bel.size)).setCell (p := ⟨g, k, none⟩) hbo.1 _
  · have := h.siz; have := h1.size; simpa [World.setCell] using (by omega : B ≤ W2.heap.size)
theorem lists_info : (Try.prog.info? 39).map (fun i => (i.zero, i.size, i.bytes)) = some (some (.slice none 0 0), 1, 24) := by kernel_rfl
theorem of_any (a : Option Addr) (len cap : Nat) (w : World) : Calls Try.prog 20 #[.slice a len cap] w fun e w' => e = .returned (.func (.func 30) #[] #[.pointer (some ⟨w.heap.size, 0, none⟩)]) ∧ w' = w.alloc (.cells #[.slice a len cap] 22) := by
  go_enter Try.func20, Try.ntmps20
  go_wp2
  go_ret
  exact ⟨rfl, rfl⟩
/-- What Clocks answers. -/
def ClocksPost (w : World) (evs : List Ev) (clients : Int) (e : Ending) (w' : World) : Prop :=
  Below w.heap.size w w' ∧ ((chk evs clients ≠ 0 ∧ e = .returned (.tuple #[.slice none 0 0, .int .i64 (chk evs clients)])) ∨ (chk evs clients = 0 ∧ ∃ g G, e = .returned (.tuple #[.slice (some ⟨g, 0, none⟩) evs.length evs.length, .int .i64 0]) ∧ ClksAt w' w.heap.size g evs.length clients.toNat evs G))
theorem chk_ok {evs : List Ev} {clients : Int} (h : chk evs clients = 0) : 0 ≤ clients ∧ clients ≤ 16 ∧ evs.length ≤ 1048576 ∧ ∀ e ∈ evs, okEv clients e = true := by
  unfold chk at h
  split at h
  · cases h
  · split at h
    · cases h
    · split at h
      · next h1 h2 h3 =>
        exact ⟨by omega, by omega, by omega, List.all_eq_true.1 h3⟩
      · cases h
theorem ok16 {e : Ev} {clients : Int} (h : okEv clients e = true) (hc : clients ≤ 16) : okEv 16 e = true := by
  unfold okEv at *
  simp at *
  omega
set_option maxHeartbeats 2000000 in
set_option maxRecDepth 100000 in
theorem clocks_any (a : Option Addr) (cap : Nat) (evs : List Ev) (clients : Int) (w : World) (hE : EvsAt w a evs) (hcap : evs.length ≤ cap) (hl : evs.length ≤ 9223372036854775807) (hwf : ∀ e ∈ evs, I64 e.o ∧ I64 e.n) :
    Calls Try.prog 11 #[.slice a evs.length cap, .int .i64 clients] w (ClocksPost w evs clients) := by
  have hF0 : Below w.heap.size w (w.alloc (.cells #[.int .i64 clients] 3)) := (Below.refl _ w).alloc (Nat.le_refl _) _
  have z0 := heap_alloc_new w (.cells #[.int .i64 clients] 3)
  refine (callsIn_wide (n := 9)).1 ?_
  refine callsIn_of_wp_marks Try.func11 rfl trivial ?_ rfl
  simp only [Try.ntmps11, List.size_toArray, List.length_cons, List.length_nil, Nat.reduceAdd, Nat.reduceSub, Array.replicate_succ, Array.replicate_zero, List.push_toArray, List.append_toArray, List.nil_append, List.cons_append]
  refine wpIn_wide.2 ?_
  have hck := hid_of (check_any a cap evs clients (w.alloc (.cells #[.int .i64 clients] 3)) (hE.keep hF0) hl)
  go_wp2_with fail
  generalize w.alloc (.cells #[.int .i64 clients] 3) = W0 at hF0 z0 hck ⊢
  refine hck.out.mono ?_
  rintro e W1 ⟨rfl, hB1⟩
  have z1 := (hB1.block _ (Array.getElem?_eq_some_iff.1 z0).1).trans z0
  replace hB1 := hF0.trans (hB1.mono hF0.size)
  by_cases h0 : chk evs clients = 0
  · obtain ⟨c1, c2, c3, c4⟩ := chk_ok h0
    obtain ⟨nc, rfl⟩ := Int.eq_ofNat_of_zero_le c1
    rw [h0]
    clear hck z0 hF0
    have hmk := run_make_row' (P := Try.prog) 30 39 (.slice none 0 0) 24 Try.underlying30 lists_info rfl .i64 .i64 evs.length (by omega) (by omega) W1
    obtain ⟨X3, hX3⟩ : ∃ X3, Hid ((W1.alloc (.cells (madeCells #[.slice none 0 0] evs.length) 39)).alloc (.cells #[.slice (some ⟨W1.heap.size, 0, none⟩) evs.length evs.length] 30) = X3) := ⟨_, rfl⟩
    have hB3 : Below W1.heap.size W1 X3 := by rw [← hX3.out]; exact ((Below.refl _ W1).alloc (Nat.le_refl _) _).alloc (by simp) _
    have g3 : X3.heap[W1.heap.size + 1]? = some (.cells #[.slice (some ⟨W1.heap.size, 0, none⟩) evs.length evs.length] 30 (0, 0)) := by rw [← hX3.out]; exact heap_alloc2_new W1 _ _
    have r3 : X3.rowIs W1.heap.size 39 evs.length (fun _ => .slice none 0 0) := by rw [← hX3.out]; exact (World.rowIs_made W1 _ _ _).alloc _
    have s3 : X3.heap.size = W1.heap.size + 2 := by rw [← hX3.out]; simp
    have hof := hid_of (of_any a evs.length cap X3)
    obtain ⟨X4, hX4⟩ : ∃ X4, Hid (X3.alloc (.cells #[.slice a evs.length cap] 22) = X4) := ⟨_, rfl⟩
    have hB4 : Below X3.heap.size X3 X4 := by rw [← hX4.out]; exact (Below.refl _ X3).alloc (Nat.le_refl _) _
    have g4 : X4.heap[X3.heap.size]? = some (.cells #[.slice a evs.length cap] 22 (0, 0)) := by rw [← hX4.out]; exact heap_alloc_new X3 _
    have s4 : X4.heap.size = W1.heap.size + 3 := by rw [← hX4.out]; simp [s3]
    rw [hX4.out] at hof
    have hB14 : Below W1.heap.size W1 X4 := hB3.trans (hB4.mono (by omega))
    have hlw := hB1.size
    have hz1 := (Array.getElem?_eq_some_iff.1 z1).1
    have hI0 : ∃ G, CkI w X4.heap.size (W1.heap.size + 1) w.heap.size W1.heap.size evs.length nc evs 0 (fun _ => False) X4 G := ⟨fun _ => 0, (hB4.block _ (by omega)).trans g3, (hB14.block _ hz1).trans z1, (r3.of_block (hB4.block _ (by omega))).congr (fun i _ => by simp), (fun j hj => by omega), (fun i j hi => by omega), ⟨fun e => e, fun e => e, fun e => e⟩, (fun b e => e.elim), hB1.trans (hB14.mono hlw), Nat.le_refl _⟩
    have hE4 := hE.keep (hB1.trans (hB14.mono hlw))
    have hbx : X4.cell? ⟨X3.heap.size, 0, none⟩ = some (.slice a evs.length cap) := by simp [World.cell?, g4]
    replace hI0 := hid_of hI0
    replace hE4 := hid_of hE4
    replace hwf := hid_of hwf
    replace c4 := hid_of c4
    replace hB1 := hid_of hB1
    replace s4 := hid_of s4
    replace s3 := hid_of s3
    replace hE := hid_of hE
    clear g3 r3 g4 hB3 hB4 hB14 z1 hX4
    go_wp2_with (rw [hX3.out])
    refine hof.out.mono ?_
    rintro e w' ⟨rfl, hw'⟩
    obtain rfl : X4 = w' := hw'.symm
    clear hof hmk hX3
    go_wp2_with fail
    refine rf_law (n := 9) (bE := X3.heap.size) (cap := cap) (a := a) (evs := evs) rfl rfl hE4.out hbx hcap (fun e he => ok16 (c4.out e he) (by omega)) hwf.out c3
      (fun k S W => ∃ G, CkI w X4.heap.size (W1.heap.size + 1) w.heap.size W1.heap.size evs.length nc evs k S W G) (CkI.abid _ _ _ _ _ _ _ _) ?io hI0.out
      (fun k a' W => ∃ bn, X4.heap.size + 2 ≤ bn ∧ W.heap[bn]? = some (.cells (ck (clkAt evs k)).toArray 49 (0, 0)) ∧ a' = { tmps := #[.slice a evs.length cap, .int .i64 (nc : Int), undef, .pointer (some ⟨w.heap.size, 0, none⟩), .slice none 0 0, .int .i64 0, .int .i64 0, .pointer (some ⟨W1.heap.size + 1, 0, none⟩), .int .i64 (k : Int), .pointer (some ⟨bn, 0, none⟩), .slice a evs.length cap, .int .i64 (nc : Int), .int .i64 0, .int .i64 0, .bool false, undef, .slice a evs.length cap, .int .i64 (evs.length : Int), .slice (some ⟨W1.heap.size, 0, none⟩) evs.length evs.length, .slice a evs.length cap, .func (.func 30) #[] #[.pointer (some ⟨X3.heap.size, 0, none⟩)], .int .i64 (k : Int), .agg (ck (clkAt evs k)).toArray, undef, undef, undef, undef, undef, undef, undef], defers := [] }) ?ax ?assign ?body ?done
    case io =>
      rintro k S W o ⟨G, h⟩
      have h4 := s4.out
      have h3 := s3.out
      exact ⟨G, h.other (l := X4.heap.size + 1) (by omega) (by omega) (by omega) (by omega) (Nat.le_refl _) (by simp) ⟨rfl, rfl, rfl⟩ (fun b hb => World.putObj_heap_other hb)⟩
    case ax =>
      rintro k a' W o ⟨bn, h1, h2, h3⟩
      exact ⟨bn, h1, (World.putObj_heap_other (by omega)).trans h2, h3⟩
    case assign =>
      intro k W K hlt hK
      have h3 : (W.alloc (.cells zeros16 49)).heap[W.heap.size]? = some (.cells zeros16 49 (0, 0)) := heap_alloc_new W _
      have o1 := all_oneCell_toArray (ck_one (clkAt evs k))
      have s1 : zeros16.size = (ck (clkAt evs k)).toArray.size := by simp [ck_len, zeros16]
      have hb : Below W.heap.size W ((W.alloc (.cells zeros16 49)).setRow W.heap.size (ck (clkAt evs k)).toArray) := (((Fr.refl (fun _ => False) W).alloc _).setRow _ _ (.inr (Nat.le_refl _))).below (Nat.le_refl _) (fun _ e => e.elim)
      have hn : ((W.alloc (.cells zeros16 49)).setRow W.heap.size (ck (clkAt evs k)).toArray).heap[W.heap.size]? = some (.cells (ck (clkAt evs k)).toArray 49 (0, 0)) := setRow_heap _ _ _ _ _ _ h3
      have hK' := hid_of (hK _ _ hb ⟨W.heap.size, by omega, hn, rfl⟩)
      unfold zeros16 at h3 s1 hK'
      unfold encE
      clear hK hb hn
      simp only [List.zip_toArray, List.zip_cons_cons, List.zip_nil_right, List.foldl_toArray, List.foldl_cons, List.foldl_nil, List.setIfInBounds_toArray, List.set_cons_succ, List.set_cons_zero]
      gi_wp2_with (refine wpListIn_store_row rfl 49 _ _ rfl W.heap.size _ rfl rfl _ _ h3 (by rw [clk_i]; simp [ck_len]) s1 o1 ?_)
      exact hK'.out
    case body =>
      rintro k S a' W ⟨G, hC⟩ ⟨bn, hbn1, hbn2, rfl⟩ hlt hEv hSl hS1 hS2 hlW
      have y0 : W.cell? ⟨W1.heap.size + 1, 0, none⟩ = some (.slice (some ⟨W1.heap.size, 0, none⟩) evs.length evs.length) := by simp [World.cell?, hC.out]
      have y1 : W.cell? ⟨w.heap.size, 0, none⟩ = some (.int .i64 (nc : Int)) := by simp [World.cell?, hC.cli]
      have hgn := grid_one hbn2
      have n : ∀ i, i < 16 → W.cell? ⟨bn, i, none⟩ = some (.int .i32 ((clkAt evs k) i : Nat)) := fun i hi => by simpa using hgn.cell (c := 0) (by decide) hi
      have n0 := n 0 (by decide)
      have n1 := n 1 (by decide)
      have n2 := n 2 (by decide)
      have n3 := n 3 (by decide)
      have n4 := n 4 (by decide)
      have n5 := n 5 (by decide)
      have n6 := n 6 (by decide)
      have n7 := n 7 (by decide)
      have n8 := n 8 (by decide)
      have n9 := n 9 (by decide)
      have n10 := n 10 (by decide)
      have n11 := n 11 (by decide)
      have n12 := n 12 (by decide)
      have n13 := n 13 (by decide)
      have n14 := n 14 (by decide)
      have n15 := n 15 (by decide)
      clear n hgn
      have hmix : (Try.prog).follows .mixedOrders = true := by kernel_rfl
      have hcnt := hid_of (counts_any (clkAt evs k) nc (by omega) (fun i _ => clkAt_le evs k (by omega) c3 i) W.drew)
      rw [show (ck (clkAt evs k)).toArray = #[.int .i32 (clkAt evs k 0 : Nat), .int .i32 (clkAt evs k 1 : Nat), .int .i32 (clkAt evs k 2 : Nat), .int .i32 (clkAt evs k 3 : Nat), .int .i32 (clkAt evs k 4 : Nat), .int .i32 (clkAt evs k 5 : Nat), .int .i32 (clkAt evs k 6 : Nat), .int .i32 (clkAt evs k 7 : Nat), .int .i32 (clkAt evs k 8 : Nat), .int .i32 (clkAt evs k 9 : Nat), .int .i32 (clkAt evs k 10 : Nat), .int .i32 (clkAt evs k 11 : Nat), .int .i32 (clkAt evs k 12 : Nat), .int .i32 (clkAt evs k 13 : Nat), .int .i32 (clkAt evs k 14 : Nat), .int .i32 (clkAt evs k 15 : Nat)] from rfl] at hcnt
      have hfin := hid_of (fun W2 gj (h1 : Below W.heap.size W W2) (h2 : W.heap.size ≤ gj) (h3 : W2.rowIs gj 3 nc (cnt (clkAt evs k))) => hC.next (w0 := w) hlt hlW hSl (by have := s4.out; omega) (by omega) h1 h2 h3)
      have hrow := hC.row.cell hlt
      have hfz := hC.row.frozen k
      simp only [Nat.lt_irrefl, if_false] at hrow
      have hEv' := hid_of hEv
      have hnS := hid_of hC.nS.2.2
      clear hEv hC hbn2
      gi_wp2_with fail
      gi_region_with_o (refine ⟨trivial, ?_⟩; gi_at_call 24; refine (CallsIn.inRound _ (callsIn_wide.2 hcnt.out)).mono ?_; rintro e W2 ⟨gj, rfl, hgj, hrj, hb2⟩; have hb2' : Below W.heap.size W W2 := (below_drew (Below.refl _ W)).trans hb2; have j0 := stay hb2' y0; have j1 := stay hb2' hrow; have j2 : W2.frozen? ⟨W1.heap.size, k, none⟩ = false := (hb2'.frozen (p := ⟨W1.heap.size, k, none⟩) (lt_of_cell hrow)).trans hfz; replace hb2 := hid_of hb2'; replace hrj := hid_of hrj; replace hgj := hid_of hgj; clear hb2')
      all_goals
        gi_wp2_with fail
        have hko : ∀ b, b ≠ W1.heap.size → (W2.setCell ⟨W1.heap.size, k, none⟩ (.slice (some ⟨gj, 0, none⟩) nc nc)).heap[b]? = W2.heap[b]? := fun b hb => Below.heap_setCell _ _ _ _ hb
        have hsz : (W2.setCell ⟨W1.heap.size, k, none⟩ (.slice (some ⟨gj, 0, none⟩) nc nc)).heap.size = W2.heap.size := by simp [World.setCell]
        have h4 := s4.out
        refine ⟨rfl, hfin.out W2 gj hb2.out hgj.out hrj.out, fun b hb => ?_, by rw [hsz]; exact hb2.out.size, ?_⟩
        · rw [hko b (by
            rcases hb with hb | hb | hb
            · exact fun e => hnS.out (e ▸ hb)
            · omega
            · omega)]
          refine hb2.out.block b ?_
          rcases hb with hb | hb | hb
          · exact hSl b hb
          · omega
          · omega
        · refine (hEv'.out.keep hb2.out).block (by rw [hsz]; exact Nat.le_refl _) (fun p hp hne => hko _ (fun e => ?_))
          obtain ⟨e0, l', rfl⟩ : ∃ e l', evs = e :: l' := by
            cases evs with
            | nil => exact absurd rfl hne
            | cons e l' => exact ⟨e, l', rfl⟩
          obtain ⟨b, o, h1, h2, _⟩ := hE.out 0 e0 rfl
          rw [h1] at hp
          cases hp
          simp only at e
          omega
    case done =>
      rintro S W ⟨G, hC⟩ hD
      have y0 : W.cell? ⟨W1.heap.size + 1, 0, none⟩ = some (.slice (some ⟨W1.heap.size, 0, none⟩) evs.length evs.length) := by simp [World.cell?, hC.out]
      have h4 := s4.out
      have h3 := s3.out
      have hC' := hC.other (W' := W.putObj X4.heap.size (.deferred none)) (l := X4.heap.size) (by omega) (by omega) (by omega) (by omega) (by omega) (by simp) ⟨rfl, rfl, rfl⟩ (fun b hb => World.putObj_heap_other hb)
      replace hC' := hid_of hC'
      clear hC
      go_wp2_with fail
      refine ⟨by simp, .inl ⟨_, _, rfl, run_takeDeferred hD, ?_⟩⟩
      refine ⟨.tuple #[.slice (some ⟨W1.heap.size, 0, none⟩) evs.length evs.length, .int .i64 0], by simp [results, Try.results11, go_sem], hC'.out.bel, .inr ⟨h0, W1.heap.size, G, rfl, ?_⟩⟩
      have hC := hC'.out
      refine ⟨by omega, hC.row.congr (fun i hi => by simp [hi]), fun j hj => ⟨by have := (hC.each j hj).1; omega, by have := (hC.each j hj).1; omega, ?_⟩, hC.inj⟩
      exact (hC.each j hj).2.2
  · have hne : (chk evs clients != 0) = true := by simp [h0]
    obtain ⟨v, hv⟩ : ∃ v, Hid (chk evs clients = v) := ⟨_, rfl⟩
    rw [hv.out] at hne h0 ⊢
    clear hck
    go_wp2_with fail
    exact ⟨.tuple #[.slice none 0 0, .int .i64 v], by simp [results, Try.results11, go_sem], hB1, .inl ⟨by rw [hv.out]; exact h0, by rw [hv.out]⟩⟩
end Go.Proofs.Ytdgdfpgekccibab
