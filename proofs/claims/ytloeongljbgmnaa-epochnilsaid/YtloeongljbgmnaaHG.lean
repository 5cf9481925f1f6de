import Derived.Test.YtloeongljbgmnaaHF
/-! heap: Free. -/
namespace Go.Proofs.Ytloeongljbgmnaa
open Go Go.RowKit
theorem meth_get (n : Nat) (a : Option Addr) (w : World) : (method (n + 1) 209 (.pointer a) "Get").run Try.prog w = .ok (112, .pointer a) w := by kernel_rfl
section
variable {lo : Nat} {w : World} {hb : Nat} {obj most : Int} {ns : List Nd} {c : List Int} {cs : List (List Int)} {p : Pl}
theorem isLive_some {ns : List Nd} {num gen : Int} (h : isLive ns num gen = true) : ∃ (k : Nat) (v : Int), num = (k : Int) + 1 ∧ ns[k]? = some ⟨gen, true, v⟩ := by
  unfold isLive at h
  cases hx : nodeAt ns num with
  | none => rw [hx] at h; cases h
  | some x =>
    rw [hx] at h
    simp only [Bool.and_eq_true, decide_eq_true_eq] at h
    obtain ⟨k, h1, h2, h3⟩ := nodeAt_some hx
    obtain ⟨xg, xl, xv⟩ := x
    obtain ⟨h4, h5⟩ := h
    simp only at h4 h5
    subst h4 h5
    exact ⟨k, xv, h1, h3⟩
/-- The types tell blocks apart. -/
theorem HeapV.apart (h : HeapV lo w hb obj most ns c cs p) : hb ≠ p.pb ∧ hb ≠ p.mb ∧ hb ≠ p.wb ∧ p.pb ≠ p.mb ∧ p.pb ≠ p.wb ∧ (∀ i, i < ns.length → p.N i ≠ hb ∧ p.N i ≠ p.pb ∧ p.N i ≠ p.mb ∧ p.N i ≠ p.wb) := by
  have key : ∀ {a b : Nat} {x y : Array Value} {s t : TypeId}, w.heap[a]? = some (.cells x s (0, 0)) → w.heap[b]? = some (.cells y t (0, 0)) → s ≠ t → a ≠ b := fun ha hb' hst e => by
    subst e
    rw [ha] at hb'
    cases hb'
    exact hst rfl
  refine ⟨key h.hbk h.pbk (by decide), key h.hbk h.mbk (by decide), key h.hbk h.wbk (by decide), key h.pbk h.mbk (by decide), key h.pbk h.wbk (by decide), fun i hi => ?_⟩
  have hn := h.nd i _ (List.getElem?_eq_getElem hi)
  exact ⟨key hn h.hbk (by decide), key hn h.pbk (by decide), key hn h.mbk (by decide), key hn h.wbk (by decide)⟩
/-- A node is written over. -/
theorem HeapV.setN (h : HeapV lo w hb obj most ns c cs p) {k : Nat} {y : Nd} (hk : k < ns.length) {w' : World} (hF : Fr (· = p.N k) w w') (hN : w'.heap[p.N k]? = some (.cells (nCs obj ((k : Int) + 1) y.gen y.live y.val) 219 (0, 0))) : HeapV lo w' hb obj most (ns.set k y) c cs p ∧ FT lo w w' := by
  obtain ⟨a1, a2, a3, a4, a5, a6⟩ := h.apart
  obtain ⟨b1, b2, b3, b4⟩ := a6 k hk
  have hT : FT lo w w' := FT.of_fr hF (h.nd k _ (List.getElem?_eq_getElem hk)) rfl (h.ln k hk)
  have kp : ∀ {b : Nat} {o : Obj}, w.heap[b]? = some o → b ≠ p.N k → w'.heap[b]? = some o := fun {b o} e hne => (hF.block b (Array.getElem?_eq_some_iff.1 e).1 hne).trans e
  refine ⟨⟨kp h.hbk b1.symm, kp h.wbk b4.symm, kp h.pbk b2.symm, h.pool.keep hT.still, kp h.mbk b3.symm, ?_, fun i x hx => ?_, ?_, h.lh, h.lp, ?_⟩, hT⟩
  · rw [List.length_set]
    refine ownsRow_keep h.row (fun g cs' e => hF.block g (Array.getElem?_eq_some_iff.1 e).1 (fun eg => ?_))
    have := h.nd k _ (List.getElem?_eq_getElem hk)
    rw [← eg, e] at this
    cases this
  · by_cases e : i = k
    · subst e
      rw [List.getElem?_set_self (by omega)] at hx
      cases hx
      exact hN
    · rw [List.getElem?_set_ne (fun h => e h.symm)] at hx
      have hi := (List.getElem?_eq_some_iff.1 hx).1
      exact kp (h.nd i x hx) (fun en => e (h.inj i k hi hk en))
  · rw [List.length_set]; exact h.inj
  · rw [List.length_set]; exact h.ln
/-- The pool is set. -/
theorem HeapV.setP (h : HeapV lo w hb obj most ns c cs p) {c' : List Int} {cs' : List (List Int)} {cnt : Int} {sa rest : Option Addr} (hP : PoolRep lo w c' cs' cnt sa rest) {w' : World} (hF : Fr (· = p.pb) w w') (hN : w'.heap[p.pb]? = some (.cells (pCs obj 0 cnt sa c'.length c'.length rest) 177 (0, 0))) : HeapV lo w' hb obj most ns c' cs' { p with cnt := cnt, sa := sa, rest := rest } ∧ FT lo w w' := by
  obtain ⟨a1, a2, a3, a4, a5, a6⟩ := h.apart
  have hT : FT lo w w' := FT.of_fr hF h.pbk rfl h.lp
  have kp : ∀ {b : Nat} {o : Obj}, w.heap[b]? = some o → b ≠ p.pb → w'.heap[b]? = some o := fun {b o} e hne => (hF.block b (Array.getElem?_eq_some_iff.1 e).1 hne).trans e
  refine ⟨⟨kp h.hbk a1, kp h.wbk a5.symm, hN, hP.keep hT.still, kp h.mbk a4.symm, ?_, fun i x hx => kp (h.nd i x hx) (a6 i (List.getElem?_eq_some_iff.1 hx).1).2.1, h.inj, h.lh, h.lp, h.ln⟩, hT⟩
  refine ownsRow_keep h.row (fun g cs' e => hF.block g (Array.getElem?_eq_some_iff.1 e).1 (fun eg => ?_))
  have := h.pbk
  rw [← eg, e] at this
  cases this
set_option maxRecDepth 100000 in
set_option maxHeartbeats 4000000 in
theorem free_not (h : HeapV lo w hb obj most ns c cs p) (num gen : Int) (hno : isLive ns num gen = false) : Calls Try.prog 49 #[.pointer (some ⟨hb, 0, none⟩), .pointer none, .agg #[.int .i64 num, .int .i64 gen]] w fun e w' => e = .returned (.bool false) ∧ Below w.heap.size w w' := by
  obtain ⟨W1, hW1⟩ : ∃ W1, Hid (w.alloc (.cells #[.int .i64 num, .int .i64 gen] 82) = W1) := ⟨_, rfl⟩
  have hB1 : Below w.heap.size w W1 := by rw [← hW1.out]; exact (Below.refl _ w).alloc (Nat.le_refl _) _
  have z0 := heap_alloc_new w (.cells #[.int .i64 num, .int .i64 gen] 82)
  rw [hW1.out] at z0
  have y0 : W1.cell? ⟨w.heap.size, 0, none⟩ = some (.int .i64 num) := cell_of z0 rfl
  have y1 : W1.cell? ⟨w.heap.size, 1, none⟩ = some (.int .i64 gen) := cell_of z0 rfl
  have h1 := h.under hB1
  have hcl := hid_of (cell_any h1 num)
  cases hx : nodeAt ns num with
  | none =>
    rw [cellV_none ns p.N hx] at hcl
    clear h h1 hx hno z0
    replace hB1 := hid_of hB1
    go_enter Try.func49, Try.ntmps49
    go_wp2_with (rw [hW1.out])
    refine hcl.out.mono ?_
    rintro e W2 ⟨rfl, hw⟩
    obtain rfl : W1 = W2 := hw.symm
    clear hcl hw
    go_wp2_with fail
    go_quiet (fail)
    go_wp2_with fail
    go_ret
    exact ⟨rfl, ⟨hB1.out.os, hB1.out.tape, hB1.out.output, hB1.out.size, hB1.out.block⟩⟩
  | some x =>
    obtain ⟨k, rfl, hk, hkx⟩ := nodeAt_some hx
    unfold isLive at hno
    rw [hx] at hno
    simp only at hno
    rw [cellV_some ns p.N hk] at hcl
    have hg := hid_of (fun W (hW : Below W1.heap.size W1 W) => nget_any (p.N k) obj ((k : Int) + 1) x.gen x.live x.val W ((h1.under hW).nd k x hkx))
    have hio := hid_of (fun W => isof_any x.gen x.val ((k : Int) + 1) gen x.live W)
    rw [hno] at hio
    obtain ⟨xg, xl, xv⟩ := x
    simp only at hg hio
    unfold ifN at hcl
    have hmt := meth_get
    clear h h1 hx hkx z0 hno
    replace hB1 := hid_of hB1
    go_enter Try.func49, Try.ntmps49
    go_wp2_with (rw [hW1.out])
    refine hcl.out.mono ?_
    rintro e W2 ⟨rfl, hw⟩
    obtain rfl : W1 = W2 := hw.symm
    clear hcl hw
    go_wp2_with fail
    go_region_held3 (fun w' => w'.cell? ⟨w.heap.size, 0, none⟩ = some (.int .i64 ((k : Int) + 1)) ∧ w'.cell? ⟨w.heap.size, 1, none⟩ = some (.int .i64 gen)) (go_keep) (first
      | (go_at_call 112; refine (hg.out W1.drew (below_drew (Below.refl _ W1))).mono ?_; rintro e Z1 ⟨rfl, hz1⟩; have t0 : Z1.cell? ⟨w.heap.size, 0, none⟩ = some (.int .i64 ((k : Int) + 1)) := stay hz1 y0; have t1 : Z1.cell? ⟨w.heap.size, 1, none⟩ = some (.int .i64 gen) := stay hz1 y1; replace hz1 := hid_of hz1)
      | (go_at_call 55; refine (hio.out Z1).mono ?_; rintro e Z2 ⟨rfl, hz2⟩; have s0 : Z2.cell? ⟨w.heap.size, 0, none⟩ = some (.int .i64 ((k : Int) + 1)) := stay hz2 t0; have s1 : Z2.cell? ⟨w.heap.size, 1, none⟩ = some (.int .i64 gen) := stay hz2 t1; replace hz2 := hid_of hz2))
    have hBz : Hid (Below w.heap.size w Z2) := ((below_drew hB1.out).trans (hz1.out.mono hB1.out.size)).trans (hz2.out.mono (Nat.le_trans hB1.out.size hz1.out.size))
    go_wp2_with fail
    go_ret
    exact ⟨rfl, hBz.out⟩
/-- What Free of a live node leaves. -/
def FreePost (lo : Nat) (w : World) (hb : Nat) (obj most : Int) (ns : List Nd) (c : List Int) (cs : List (List Int)) (nx : Value) (k : Nat) (gen : Int) (e : Ending) (w' : World) : Prop :=
  e = .returned (.bool true) ∧ FT lo w w' ∧ ∃ c' cs' p', p'.nx = nx ∧ HeapV lo w' hb obj most (ns.set k ⟨gen + 1, false, 0⟩) c' cs' p' ∧ stackP c' cs' = ((k : Int) + 1) :: stackP c cs
set_option maxRecDepth 100000 in
set_option maxHeartbeats 8000000 in
theorem free_live (h : HeapV lo w hb obj most ns c cs p) (k : Nat) (gen v : Int) (hkx : ns[k]? = some ⟨gen, true, v⟩) (hlo : lo ≤ w.heap.size) (hgen : -4611686018427387904 ≤ gen ∧ gen ≤ 4611686018427387904) (hcnt : p.cnt ≤ 4611686018427387904) : Calls Try.prog 49 #[.pointer (some ⟨hb, 0, none⟩), .pointer none, .agg #[.int .i64 ((k : Int) + 1), .int .i64 gen]] w (FreePost lo w hb obj most ns c cs p.nx k gen) := by
  obtain ⟨hg1, hg2⟩ := hgen
  have hk := (List.getElem?_eq_some_iff.1 hkx).1
  obtain ⟨W1, hW1⟩ : ∃ W1, Hid (w.alloc (.cells #[.int .i64 ((k : Int) + 1), .int .i64 gen] 82) = W1) := ⟨_, rfl⟩
  have hB1 : Below w.heap.size w W1 := by rw [← hW1.out]; exact (Below.refl _ w).alloc (Nat.le_refl _) _
  have z0 := heap_alloc_new w (.cells #[.int .i64 ((k : Int) + 1), .int .i64 gen] 82)
  rw [hW1.out] at z0
  have y0 : W1.cell? ⟨w.heap.size, 0, none⟩ = some (.int .i64 ((k : Int) + 1)) := cell_of z0 rfl
  have y1 : W1.cell? ⟨w.heap.size, 1, none⟩ = some (.int .i64 gen) := cell_of z0 rfl
  have h1 := h.under hB1
  have hcl := hid_of (cell_any h1 ((k : Int) + 1))
  rw [cellV_some ns p.N hk] at hcl
  have hg := hid_of (fun W (hW : Below W1.heap.size W1 W) => nget_any (p.N k) obj ((k : Int) + 1) gen true v W ((h1.under hW).nd k _ hkx))
  have hio := hid_of (fun W => isof_any gen v ((k : Int) + 1) gen true W)
  have hdt : (true && decide (gen = gen)) = true := by simp
  rw [hdt] at hio
  unfold ifN at hcl
  have hmt := meth_get
  clear hdt z0
  replace h := hid_of h
  replace h1 := hid_of h1
  replace hkx := hid_of hkx
  replace hB1 := hid_of hB1
  go_enter Try.func49, Try.ntmps49
  go_upto_region 1 with (rw [hW1.out])
  go_upto_region 2 with fail
  refine hcl.out.mono ?_
  rintro e W2 ⟨rfl, hw⟩
  obtain rfl : W1 = W2 := hw.symm
  clear hcl hw
  go_upto_region 2 with fail
  go_region_held3 (fun w' => w'.cell? ⟨w.heap.size, 0, none⟩ = some (.int .i64 ((k : Int) + 1)) ∧ w'.cell? ⟨w.heap.size, 1, none⟩ = some (.int .i64 gen)) (go_keep) (first
    | (go_at_call 112; refine (hg.out W1.drew (below_drew (Below.refl _ W1))).mono ?_; rintro e Z1 ⟨rfl, hz1⟩; have t0 : Z1.cell? ⟨w.heap.size, 0, none⟩ = some (.int .i64 ((k : Int) + 1)) := stay hz1 y0; have t1 : Z1.cell? ⟨w.heap.size, 1, none⟩ = some (.int .i64 gen) := stay hz1 y1; replace hz1 := hid_of hz1)
    | (go_at_call 55; refine (hio.out Z1).mono ?_; rintro e Z2 ⟨rfl, hz2⟩; have s0 : Z2.cell? ⟨w.heap.size, 0, none⟩ = some (.int .i64 ((k : Int) + 1)) := stay hz2 t0; have s1 : Z2.cell? ⟨w.heap.size, 1, none⟩ = some (.int .i64 gen) := stay hz2 t1; replace hz2 := hid_of hz2))
  have hB12 : Hid (Below W1.heap.size W1 Z2) := (below_drew (Below.refl _ W1)).trans (hz1.out.trans (hz2.out.mono hz1.out.size))
  have hBz : Hid (Below w.heap.size w Z2) := hB1.out.trans (hB12.out.mono hB1.out.size)
  have h2 : HeapV lo Z2 hb obj most ns c cs p := h1.out.under hB12.out
  have hst := hid_of (nset_any (p.N k) obj ((k : Int) + 1) gen true v (gen + 1) false 0 Z2 (h2.nd k _ hkx.out))
  replace h2 := hid_of h2
  clear t0 t1 hz1 hz2 hg hio y0 y1 h1
  go_upto_region 5 with fail
  refine hst.out.mono ?_
  rintro e W5 ⟨rfl, hN5, hF5⟩
  obtain ⟨h5, hT5⟩ := h2.out.setN (y := ⟨gen + 1, false, 0⟩) hk hF5 hN5
  have hNlt := (Array.getElem?_eq_some_iff.1 (h.out.nd k _ hkx.out)).1
  have r0 : W5.cell? ⟨w.heap.size, 0, none⟩ = some (.int .i64 ((k : Int) + 1)) := hF5.cell s0 (fun e => by have e' : w.heap.size = p.N k := e; omega)
  obtain ⟨-, -, -, r3, -, -⟩ := cells6 h5.hbk
  have hhb := (Array.getElem?_eq_some_iff.1 h5.hbk).1
  have hpbn := h5.apart.1
  have hpbw := (Array.getElem?_eq_some_iff.1 h.out.pbk).1
  have hlo5 : lo ≤ W5.heap.size := Nat.le_trans hlo (Nat.le_trans hBz.out.size hT5.size)
  have hpg := hid_of (fun W (hW : Below W5.heap.size W5 W) => pget_any p.pb obj 0 p.cnt p.sa c.length c.length p.rest W (h5.under hW).pbk)
  have hwi := hid_of (fun W (hW : Below W5.heap.size W5 W) => with_any lo c cs p.cnt p.sa p.rest ((k : Int) + 1) W (Nat.le_trans hlo5 hW.size) (h5.under hW).pool hcnt)
  have hps := hid_of (fun W (hW : Below W5.heap.size W5 W) cnt2 sa2 sn2 sc2 rest2 => pset_any p.pb obj 0 p.cnt p.sa c.length c.length p.rest cnt2 sa2 sn2 sc2 rest2 W (h5.under hW).pbk)
  have hT15 : Hid (FT lo w W5) := (FT.of_below hBz.out hlo).trans hT5
  replace h5 := hid_of h5
  clear hst hN5 hF5 hT5 h2 hB12 hBz s0 s1 hmt hB1 hW1 h hkx
  go_upto_region 5 with fail
  go_region_held3 (fun w' => w'.cell? ⟨w.heap.size, 0, none⟩ = some (.int .i64 ((k : Int) + 1)) ∧ w'.cell? ⟨hb, 3, none⟩ = some (.pointer (some ⟨p.pb, 0, none⟩))) (go_keep) (first
    | (go_at_call 64; refine (hpg.out W5.drew (below_drew (Below.refl _ W5))).mono ?_; rintro e Z3 ⟨rfl, hz3⟩; have t0 : Z3.cell? ⟨w.heap.size, 0, none⟩ = some (.int .i64 ((k : Int) + 1)) := stay hz3 r0; have t1 : Z3.cell? ⟨hb, 3, none⟩ = some (.pointer (some ⟨p.pb, 0, none⟩)) := stay hz3 r3; have hb3 : Hid (Below W5.heap.size W5 Z3) := (below_drew (Below.refl _ W5)).trans hz3; clear hz3)
    | (go_at_call 65; refine (hwi.out Z3 hb3.out).mono ?_; rintro e Z4 ⟨c', cs', sa', rest', rfl, hP4, hst4, hz4⟩; have s0 : Z4.cell? ⟨w.heap.size, 0, none⟩ = some (.int .i64 ((k : Int) + 1)) := stay hz4 t0; have s1 : Z4.cell? ⟨hb, 3, none⟩ = some (.pointer (some ⟨p.pb, 0, none⟩)) := stay hz4 t1; have hb4 : Hid (Below W5.heap.size W5 Z4) := hb3.out.trans (hz4.mono hb3.out.size); replace hP4 := hid_of hP4; replace hst4 := hid_of hst4; clear hz4)
    | (go_at_call 63; refine (hps.out Z4 hb4.out (p.cnt + 1) sa' c'.length c'.length rest').mono ?_; rintro e Z5 ⟨rfl, hN5, hF5⟩; have q0 : Z5.cell? ⟨w.heap.size, 0, none⟩ = some (.int .i64 ((k : Int) + 1)) := hF5.cell s0 (fun e => by have e' : w.heap.size = p.pb := e; omega); have q1 : Z5.cell? ⟨hb, 3, none⟩ = some (.pointer (some ⟨p.pb, 0, none⟩)) := hF5.cell s1 hpbn; replace hN5 := hid_of hN5; replace hF5 := hid_of hF5))
  obtain ⟨h6, hT6⟩ := (h5.out.under hb4.out).setP hP4.out hF5.out hN5.out
  have hfin : Hid (FreePost lo w hb obj most ns c cs p.nx k gen (.returned (.bool true)) Z5) := ⟨rfl, (hT15.out.trans (FT.of_below hb4.out hlo5)).trans hT6, c', cs', { p with cnt := p.cnt + 1, sa := sa', rest := rest' }, rfl, h6, hst4.out⟩
  clear h6 hT6
  go_wp2_with fail
  go_ret
  exact hfin.out
end
end Go.Proofs.Ytloeongljbgmnaa
