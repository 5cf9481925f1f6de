import Derived.Test.YtloeongljbgmnaaHI
/-! heap: a node is used again; Alloc. -/
namespace Go.Proofs.Ytloeongljbgmnaa
open Go Go.RowKit
section
variable {lo : Nat} {w : World} {hb : Nat} {obj most : Int} {ns : List Nd} {c : List Int} {cs : List (List Int)} {p : Pl}
set_option maxRecDepth 100000 in
set_option maxHeartbeats 4000000 in
theorem useagain_any (h : HeapV lo w hb obj most ns c cs p) (hlo : lo ≤ w.heap.size) (hcnt : p.cnt ≤ 4611686018427387904) (k : Nat) (st : List Int) (x : Nd) (hst : stackP c cs = ((k : Int) + 1) :: st) (hkx : ns[k]? = some x) (v : Int) :
    Calls Try.prog 70 #[.pointer (some ⟨hb, 0, none⟩), .pointer none, .agg #[.int .i64 p.cnt, .slice p.sa c.length c.length, .pointer p.rest], .int .i64 v] w fun e w' => e = .returned (.agg #[.int .i64 ((k : Int) + 1), .int .i64 x.gen]) ∧ FT lo w w' ∧ ∃ c' cs' p', p'.nx = p.nx ∧ HeapV lo w' hb obj most (ns.set k ⟨x.gen, true, v⟩) c' cs' p' ∧ stackP c' cs' = st := by
  have hk := (List.getElem?_eq_some_iff.1 hkx).1
  have hc : c ≠ [] := fun e => by
    subst e
    cases cs with
    | nil => simp [stackP] at hst
    | cons d cs => exact h.pool.1 rfl
  obtain ⟨W2, hW2⟩ : ∃ W2, Hid ((w.alloc (.cells #[.int .i64 p.cnt, .slice p.sa c.length c.length, .pointer p.rest] 162)).alloc (.cells #[.int .i64 0, .int .i64 0] 82) = W2) := ⟨_, rfl⟩
  have z0 := heap_alloc2_old w (.cells #[.int .i64 p.cnt, .slice p.sa c.length c.length, .pointer p.rest] 162) (.cells #[.int .i64 0, .int .i64 0] 82)
  have z1 := heap_alloc2_new w (.cells #[.int .i64 p.cnt, .slice p.sa c.length c.length, .pointer p.rest] 162) (.cells #[.int .i64 0, .int .i64 0] 82)
  have hB2 : Below w.heap.size w W2 := by rw [← hW2.out]; exact ((Below.refl _ w).alloc (Nat.le_refl _) _).alloc (by simp) _
  rw [hW2.out] at z0 z1
  obtain ⟨y0, y1, y2⟩ := cells3 z0
  have h2 := h.under hB2
  have htk := hid_of (taken_any lo c cs p.cnt p.sa p.rest W2 h2.pool hc hcnt)
  obtain ⟨xg, xl, xv⟩ := x
  replace hst := hid_of hst
  replace hkx := hid_of hkx
  replace h2 := hid_of h2
  replace hB2 := hid_of hB2
  replace z1 := hid_of z1
  clear h z0
  go_enter Try.func70, Try.ntmps70
  go_wp2_with (rw [hW2.out])
  refine htk.out.mono ?_
  rintro e W3 ⟨x, c', cs', sa', rest', rfl, hP3, hst3, hB3⟩
  obtain ⟨hx, hst'⟩ : x = (k : Int) + 1 ∧ stackP c' cs' = st := by
    have := hst3.symm.trans hst.out
    simp only [List.cons.injEq] at this
    exact this
  subst hx
  obtain ⟨W4, hW4⟩ : ∃ W4, Hid (W3.alloc (.cells #[.int .i64 (p.cnt - 1), .slice sa' c'.length c'.length, .pointer rest'] 162) = W4) := ⟨_, rfl⟩
  have hB34 : Below W3.heap.size W3 W4 := by rw [← hW4.out]; exact (Below.refl _ W3).alloc (Nat.le_refl _) _
  have z4 := heap_alloc_new W3 (.cells #[.int .i64 (p.cnt - 1), .slice sa' c'.length c'.length, .pointer rest'] 162)
  rw [hW4.out] at z4
  have hB24 : Below W2.heap.size W2 W4 := hB3.trans (hB34.mono hB3.size)
  have h4 := h2.out.under hB24
  have hP4 : PoolRep lo W4 c' cs' (p.cnt - 1) sa' rest' := hP3.keep (Still.of_below hB34)
  obtain ⟨u0, u1, u2⟩ := cells3 z4
  have u3 : W4.cell? ⟨hb, 3, none⟩ = some (.pointer (some ⟨p.pb, 0, none⟩)) := (cells6 h4.hbk).2.2.2.1
  have hps := hid_of (fun W (hW : Below W4.heap.size W4 W) => pset_any p.pb obj 0 p.cnt p.sa c.length c.length p.rest (p.cnt - 1) sa' c'.length c'.length rest' W (h4.under hW).pbk)
  have hres4 : Hid (W4.heap[w.heap.size + 1]? = some (.cells #[.int .i64 0, .int .i64 0] 82 (0, 0))) := (hB24.block _ (Array.getElem?_eq_some_iff.1 z1.out).1).trans z1.out
  have hB04 : Hid (Below w.heap.size w W4) := hB2.out.trans (hB24.mono hB2.out.size)
  have hpb4 := (Array.getElem?_eq_some_iff.1 h4.pbk).1
  have hpbn := h4.apart.1
  have hpb3 : W3.heap.size ≠ p.pb := by
    have := (Array.getElem?_eq_some_iff.1 (h2.out.pbk)).1
    have := hB3.size
    omega
  replace h4 := hid_of h4
  replace hP4 := hid_of hP4
  replace hst' := hid_of hst'
  clear htk hP3 hst3 hB3 hB34 hB24 z4 h2 hW2 y0 y1 y2 z1 hst
  go_upto_region 2 with (rw [hW4.out])
  go_region_held3 (fun w' => w'.cell? ⟨W3.heap.size, 0, none⟩ = some (.int .i64 (p.cnt - 1)) ∧ w'.cell? ⟨W3.heap.size, 1, none⟩ = some (.slice sa' c'.length c'.length) ∧ w'.cell? ⟨W3.heap.size, 2, none⟩ = some (.pointer rest') ∧ w'.cell? ⟨hb, 3, none⟩ = some (.pointer (some ⟨p.pb, 0, none⟩))) (go_keep) (first
    | (go_at_call 63; refine (hps.out W4.drew (below_drew (Below.refl _ W4))).mono ?_; rintro e Z5 ⟨rfl, hN5, hF5⟩; have t0 : Z5.cell? ⟨W3.heap.size, 0, none⟩ = some (.int .i64 (p.cnt - 1)) := hF5.cell u0 hpb3; have t1 : Z5.cell? ⟨W3.heap.size, 1, none⟩ = some (.slice sa' c'.length c'.length) := hF5.cell u1 hpb3; have t2 : Z5.cell? ⟨W3.heap.size, 2, none⟩ = some (.pointer rest') := hF5.cell u2 hpb3; have t3 : Z5.cell? ⟨hb, 3, none⟩ = some (.pointer (some ⟨p.pb, 0, none⟩)) := hF5.cell u3 hpbn; replace hN5 := hid_of hN5; replace hF5 := hid_of hF5))
  have hd4 : Below W4.heap.size W4 W4.drew := below_drew (Below.refl _ W4)
  obtain ⟨h5, hT5⟩ := (h4.out.under hd4).setP (hP4.out.keep (Still.of_below hd4)) hF5.out hN5.out
  have hT05 : Hid (FT lo w Z5) := (FT.of_below (hB04.out.trans (hd4.mono hB04.out.size)) hlo).trans hT5
  have hres5 := hT5.cold _ _ hres4.out rfl
  have hcl := cell_any h5 ((k : Int) + 1)
  rw [cellV_some ns _ hk] at hcl
  have hge := hid_of (nget_any (p.N k) obj ((k : Int) + 1) xg xl xv Z5 (h5.nd k _ hkx.out))
  unfold ifN at hcl
  replace hcl := hid_of hcl
  replace h5 := hid_of h5
  have hmg := meth_get
  have hms := meth_set
  have hgo := gen_of xg xv xl
  clear hT5 hd4 h4 hP4 hN5 hF5 hps t0 t1 t2 t3 u0 u1 u2 u3 hres4 hB04 hW4
  go_wp2_with fail
  refine hcl.out.mono ?_
  rintro e Z6 ⟨rfl, hw⟩
  obtain rfl : Z5 = Z6 := hw.symm
  clear hcl hw
  go_wp2_with fail
  refine hge.out.mono ?_
  rintro e Z6 ⟨rfl, hB6⟩
  have h6 := h5.out.under hB6
  have hse := hid_of (nset_any (p.N k) obj ((k : Int) + 1) xg xl xv xg true v Z6 (h6.nd k _ hkx.out))
  have hres6 := (hB6.block _ (Array.getElem?_eq_some_iff.1 hres5).1).trans hres5
  have hT06 : Hid (FT lo w Z6) := hT05.out.trans (FT.of_below hB6 (Nat.le_trans hlo hT05.out.size))
  replace h6 := hid_of h6
  clear hge h5 hres5 hB6 hT05
  go_wp2_with fail
  refine hse.out.mono ?_
  rintro e Z7 ⟨rfl, hN7, hF7⟩
  obtain ⟨h7, hT7⟩ := h6.out.setN (y := ⟨xg, true, v⟩) hk hF7 hN7
  have hres7 := hT7.cold _ _ hres6 rfl
  have k8 := setRow_heap Z7 (w.heap.size + 1) _ #[.int .i64 ((k : Int) + 1), .int .i64 xg] _ _ hres7
  have v0 : (Z7.setRow (w.heap.size + 1) #[.int .i64 ((k : Int) + 1), .int .i64 xg]).cell? ⟨w.heap.size + 1, 0, none⟩ = some (.int .i64 ((k : Int) + 1)) := cell_of k8 rfl
  have v1 : (Z7.setRow (w.heap.size + 1) #[.int .i64 ((k : Int) + 1), .int .i64 xg]).cell? ⟨w.heap.size + 1, 1, none⟩ = some (.int .i64 xg) := cell_of k8 rfl
  have hfin : Hid (FT lo w (Z7.setRow (w.heap.size + 1) #[.int .i64 ((k : Int) + 1), .int .i64 xg]) ∧ ∃ c' cs' p', p'.nx = p.nx ∧ HeapV lo (Z7.setRow (w.heap.size + 1) #[.int .i64 ((k : Int) + 1), .int .i64 xg]) hb obj most (ns.set k ⟨xg, true, v⟩) c' cs' p' ∧ stackP c' cs' = st) := ⟨(hT06.out.trans hT7).fresh (by omega) hlo _, c', cs', { p with cnt := p.cnt - 1, sa := sa', rest := rest' }, rfl, h7.ref hres7 _, hst'.out⟩
  clear hse h6 hres6 hN7 hF7 h7 hT7 k8 hT06 hst' hmg hms hgo
  go_wp2_with (refine wpList_store_row rfl 82 _ _ rfl (w.heap.size + 1) _ rfl rfl _ _ hres7 ref_i rfl (ref_one _ _) ?_)
  go_wp2_with fail
  exact bodyPost_ret (v := .agg #[.int .i64 ((k : Int) + 1), .int .i64 xg]) (by simp [results, Try.results70, go_sem, v0, v1]) rfl ⟨rfl, hfin.out⟩
end
end Go.Proofs.Ytloeongljbgmnaa
