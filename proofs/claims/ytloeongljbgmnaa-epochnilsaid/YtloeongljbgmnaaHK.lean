import Derived.Test.YtloeongljbgmnaaHJ
/-! heap: Alloc, New. -/
namespace Go.Proofs.Ytloeongljbgmnaa
open Go Go.RowKit
/-- A heap between two calls: its nodes, and the numbers in its pool, the last one first. -/
def HeapS (lo : Nat) (w : World) (hb : Nat) (obj most : Int) (ns : List Nd) (st : List Int) : Prop := ∃ c cs p, p.nx = .nilIface ∧ HeapV lo w hb obj most ns c cs p ∧ stackP c cs = st
theorem HeapS.under {lo : Nat} {w w' : World} {hb : Nat} {obj most : Int} {ns : List Nd} {st : List Int} (h : HeapS lo w hb obj most ns st) (hB : Below w.heap.size w w') : HeapS lo w' hb obj most ns st := by
  obtain ⟨c, cs, p, h1, h2, h3⟩ := h
  exact ⟨c, cs, p, h1, h2.under hB, h3⟩
theorem HeapS.lt {lo : Nat} {w : World} {hb : Nat} {obj most : Int} {ns : List Nd} {st : List Int} (h : HeapS lo w hb obj most ns st) : hb < w.heap.size := by
  obtain ⟨c, cs, p, h1, h2, h3⟩ := h
  exact (Array.getElem?_eq_some_iff.1 h2.hbk).1
theorem HeapV.ref' {lo : Nat} {w : World} {hb : Nat} {obj most : Int} {ns : List Nd} {st : List Int} (h : HeapS lo w hb obj most ns st) {g : Nat} {vs : Array Value} (hg : w.heap[g]? = some (.cells vs 82 (0, 0))) (us : Array Value) : HeapS lo (w.setRow g us) hb obj most ns st := by
  obtain ⟨c, cs, p, h1, h2, h3⟩ := h
  exact ⟨c, cs, p, h1, h2.ref hg us, h3⟩
section
variable {lo : Nat} {w : World} {hb : Nat} {obj most : Int} {ns : List Nd} {st : List Int}
/-- What an Alloc tells, and what it leaves. -/
def AllocPost (lo : Nat) (w : World) (hb : Nat) (obj most : Int) (num gen er : Int) (ns : List Nd) (st : List Int) (e : Ending) (w' : World) : Prop :=
  e = .returned (.tuple #[.agg #[.int .i64 num, .int .i64 gen], .int .i64 er]) ∧ FT lo w w' ∧ HeapS lo w' hb obj most ns st
theorem alloc_fin {W7 : World} {ns' : List Nd} {st' : List Int} {num gen er : Int} (hlo : lo ≤ w.heap.size) (hT : FT lo w W7) (hS : HeapS lo W7 hb obj most ns' st') (hres : W7.heap[w.heap.size]? = some (.cells #[.int .i64 0, .int .i64 0] 82 (0, 0))) : AllocPost lo w hb obj most num gen er ns' st' (.returned (.tuple #[.agg #[.int .i64 num, .int .i64 gen], .int .i64 er])) (W7.setRow w.heap.size #[.int .i64 num, .int .i64 gen]) ∧ (W7.setRow w.heap.size #[.int .i64 num, .int .i64 gen]).cell? ⟨w.heap.size, 0, none⟩ = some (.int .i64 num) ∧ (W7.setRow w.heap.size #[.int .i64 num, .int .i64 gen]).cell? ⟨w.heap.size, 1, none⟩ = some (.int .i64 gen) := by
  have k8 := setRow_heap W7 w.heap.size _ #[.int .i64 num, .int .i64 gen] _ _ hres
  exact ⟨⟨rfl, hT.fresh (Nat.le_refl _) hlo _, HeapV.ref' hS hres _⟩, cell_of k8 rfl, cell_of k8 rfl⟩
set_option maxRecDepth 100000 in
set_option maxHeartbeats 4000000 in
theorem alloc_again (h : HeapS lo w hb obj most ns st) (hlo : lo ≤ w.heap.size) (k : Nat) (st' : List Int) (x : Nd) (hst : st = ((k : Int) + 1) :: st') (hkx : ns[k]? = some x) (hl : st.length ≤ 1048576) (v : Int) :
    Calls Try.prog 52 #[.pointer (some ⟨hb, 0, none⟩), .pointer none, .int .i64 v] w (AllocPost lo w hb obj most ((k : Int) + 1) x.gen 0 (ns.set k ⟨x.gen, true, v⟩) st') := by
  obtain ⟨c, cs, p, hnx, hV, hstk⟩ := h
  have hcn : p.cnt = (st.length : Nat) := by rw [hV.pool.count, hstk]
  have hpos : 0 < p.cnt := by rw [hcn, hst, List.length_cons]; omega
  have hmax : p.cnt ≤ 1048576 := by rw [hcn]; omega
  obtain ⟨W1, hW1⟩ : ∃ W1, Hid (w.alloc (.cells #[.int .i64 0, .int .i64 0] 82) = W1) := ⟨_, rfl⟩
  have hB1 : Below w.heap.size w W1 := by rw [← hW1.out]; exact (Below.refl _ w).alloc (Nat.le_refl _) _
  have z1 := heap_alloc_new w (.cells #[.int .i64 0, .int .i64 0] 82)
  rw [hW1.out] at z1
  have h1 := hV.under hB1
  have y3 : W1.cell? ⟨hb, 3, none⟩ = some (.pointer (some ⟨p.pb, 0, none⟩)) := (cells6 h1.hbk).2.2.2.1
  have hpg := hid_of (pget_any p.pb obj 0 p.cnt p.sa c.length c.length p.rest W1 h1.pbk)
  replace h1 := hid_of h1
  replace hB1 := hid_of hB1
  replace z1 := hid_of z1
  have hstk' : Hid (stackP c cs = ((k : Int) + 1) :: st') := hstk.trans hst
  replace hkx := hid_of hkx
  clear hV hcn hst hstk
  go_enter Try.func52, Try.ntmps52
  go_wp2_with (rw [hW1.out])
  refine hpg.out.mono ?_
  rintro e W2 ⟨rfl, hB2⟩
  obtain ⟨W3, hW3⟩ : ∃ W3, Hid (W2.alloc (.cells #[.int .i64 p.cnt, .slice p.sa c.length c.length, .pointer p.rest] 162) = W3) := ⟨_, rfl⟩
  have hB23 : Below W2.heap.size W2 W3 := by rw [← hW3.out]; exact (Below.refl _ W2).alloc (Nat.le_refl _) _
  have z3 := heap_alloc_new W2 (.cells #[.int .i64 p.cnt, .slice p.sa c.length c.length, .pointer p.rest] 162)
  rw [hW3.out] at z3
  have hB13 : Below W1.heap.size W1 W3 := hB2.trans (hB23.mono hB2.size)
  have h3 := h1.out.under hB13
  have hB03 : Below w.heap.size w W3 := hB1.out.trans (hB13.mono hB1.out.size)
  obtain ⟨u0, u1, u2⟩ := cells3 z3
  have hua := hid_of (useagain_any h3 (Nat.le_trans hlo hB03.size) (by omega) k st' x hstk'.out hkx.out v)
  have hres3 : Hid (W3.heap[w.heap.size]? = some (.cells #[.int .i64 0, .int .i64 0] 82 (0, 0))) := (hB13.block _ (Array.getElem?_eq_some_iff.1 z1.out).1).trans z1.out
  replace hB03 := hid_of hB03
  clear hpg hB2 hB23 hB13 z3 h1 h3 y3 hW1
  go_wp2_with (rw [hW3.out])
  refine hua.out.mono ?_
  rintro e W7 ⟨rfl, hT7, c', cs', p', hp', h7, hst7⟩
  have hres7 := hT7.cold _ _ hres3.out rfl
  obtain ⟨hfin, v0, v1⟩ := alloc_fin (num := (k : Int) + 1) (gen := x.gen) (er := 0) hlo ((FT.of_below hB03.out hlo).trans hT7) ⟨c', cs', p', hp'.trans hnx, h7, hst7⟩ hres7
  replace hfin := hid_of hfin
  clear hua h7 hT7 hst7 hres3 hB03 u0 u1 u2
  go_wp2_with (refine wpList_store_row rfl 82 _ _ rfl w.heap.size _ rfl rfl _ _ hres7 ref_i rfl (ref_one _ _) ?_)
  go_wp2_with fail
  exact bodyPost_ret (v := .tuple #[.agg #[.int .i64 ((k : Int) + 1), .int .i64 x.gen], .int .i64 0]) (by simp [results, Try.results52, go_sem, v0, v1]) rfl hfin.out
set_option maxRecDepth 100000 in
set_option maxHeartbeats 4000000 in
theorem alloc_rest (h : HeapS lo w hb obj most ns []) (hlo : lo ≤ w.heap.size) (hl : ns.length ≤ 1048576) (v : Int) :
    Calls Try.prog 52 #[.pointer (some ⟨hb, 0, none⟩), .pointer none, .int .i64 v] w fun e w' => if (ns.length : Int) < most then AllocPost lo w hb obj most ((ns.length : Int) + 1) 1 0 (ns ++ [⟨1, true, v⟩]) [] e w' else AllocPost lo w hb obj most 0 0 5 ns [] e w' := by
  obtain ⟨c, cs, p, hnx, hV, hstk⟩ := h
  have hcn : p.cnt = 0 := by rw [hV.pool.count, hstk]; rfl
  obtain ⟨W1, hW1⟩ : ∃ W1, Hid (w.alloc (.cells #[.int .i64 0, .int .i64 0] 82) = W1) := ⟨_, rfl⟩
  have hB1 : Below w.heap.size w W1 := by rw [← hW1.out]; exact (Below.refl _ w).alloc (Nat.le_refl _) _
  have z1 := heap_alloc_new w (.cells #[.int .i64 0, .int .i64 0] 82)
  rw [hW1.out] at z1
  have h1 := hV.under hB1
  have y3 : W1.cell? ⟨hb, 3, none⟩ = some (.pointer (some ⟨p.pb, 0, none⟩)) := (cells6 h1.hbk).2.2.2.1
  have hpg := pget_any p.pb obj 0 p.cnt p.sa c.length c.length p.rest W1 h1.pbk
  rw [hcn] at hpg
  replace hpg := hid_of hpg
  replace h1 := hid_of h1
  replace hB1 := hid_of hB1
  replace z1 := hid_of z1
  replace hstk := hid_of hstk
  obtain ⟨n, hn⟩ : ∃ n, Hid (ns.length = n) := ⟨_, rfl⟩
  rw [hn.out] at hl ⊢
  clear hV hcn
  by_cases hlt : (n : Int) < most
  · simp only [if_pos hlt]
    go_enter Try.func52, Try.ntmps52
    go_wp2_with (rw [hW1.out])
    refine hpg.out.mono ?_
    rintro e W2 ⟨rfl, hB2⟩
    obtain ⟨W3, hW3⟩ : ∃ W3, Hid (W2.alloc (.cells #[.int .i64 0, .slice p.sa c.length c.length, .pointer p.rest] 162) = W3) := ⟨_, rfl⟩
    have hB23 : Below W2.heap.size W2 W3 := by rw [← hW3.out]; exact (Below.refl _ W2).alloc (Nat.le_refl _) _
    have z3 := heap_alloc_new W2 (.cells #[.int .i64 0, .slice p.sa c.length c.length, .pointer p.rest] 162)
    rw [hW3.out] at z3
    have hB13 : Below W1.heap.size W1 W3 := hB2.trans (hB23.mono hB2.size)
    have h3 := h1.out.under hB13
    have hB03 : Below w.heap.size w W3 := hB1.out.trans (hB13.mono hB1.out.size)
    obtain ⟨u0, u1, u2⟩ := cells3 z3
    have y2 : W3.cell? ⟨hb, 2, none⟩ = some (.int .i64 most) := (cells6 h3.hbk).2.2.1
    have hd : Below W3.heap.size W3 W3.drew := below_drew (Below.refl _ W3)
    have hmd := made_any (h3.under hd)
    have hmo := makeone_any (h3.under hd) hnx (Nat.le_trans hlo hB03.size) (by rw [hn.out]; exact hl) v
    rw [hn.out] at hmd hmo
    replace hmd := hid_of hmd
    replace hmo := hid_of hmo
    have hres3 : Hid (W3.heap[w.heap.size]? = some (.cells #[.int .i64 0, .int .i64 0] 82 (0, 0))) := (hB13.block _ (Array.getElem?_eq_some_iff.1 z1.out).1).trans z1.out
    replace hB03 := hid_of (hB03.trans (hd.mono hB03.size))
    clear hpg hB2 hB23 hB13 z3 h1 h3 y3 hW1 hd
    go_upto_region 6 with (rw [hW3.out])
    go_region_held3 (fun w' => w'.cell? ⟨hb, 2, none⟩ = some (.int .i64 most)) (go_keep) (first
      | (go_at_call 71; refine hmd.out.mono ?_; rintro e Z1 ⟨rfl, rfl⟩))
    clear hmd
    go_wp2_with fail
    refine hmo.out.mono ?_
    rintro e W7 ⟨rfl, hT7, p', hp', h7⟩
    have hres7 := hT7.cold _ _ hres3.out rfl
    obtain ⟨hfin, v0, v1⟩ := alloc_fin (num := (n : Int) + 1) (gen := 1) (er := 0) hlo ((FT.of_below hB03.out hlo).trans hT7) ⟨c, cs, p', hp', h7, hstk.out⟩ hres7
    replace hfin := hid_of hfin
    clear hmo h7 hT7 hres3 hB03 u0 u1 u2
    go_wp2_with (refine wpList_store_row rfl 82 _ _ rfl w.heap.size _ rfl rfl _ _ hres7 ref_i rfl (ref_one _ _) ?_)
    go_wp2_with fail
    exact bodyPost_ret (v := .tuple #[.agg #[.int .i64 ((n : Int) + 1), .int .i64 1], .int .i64 0]) (by simp [results, Try.results52, go_sem, v0, v1]) rfl hfin.out
  · simp only [if_neg hlt]
    go_enter Try.func52, Try.ntmps52
    go_wp2_with (rw [hW1.out])
    refine hpg.out.mono ?_
    rintro e W2 ⟨rfl, hB2⟩
    obtain ⟨W3, hW3⟩ : ∃ W3, Hid (W2.alloc (.cells #[.int .i64 0, .slice p.sa c.length c.length, .pointer p.rest] 162) = W3) := ⟨_, rfl⟩
    have hB23 : Below W2.heap.size W2 W3 := by rw [← hW3.out]; exact (Below.refl _ W2).alloc (Nat.le_refl _) _
    have z3 := heap_alloc_new W2 (.cells #[.int .i64 0, .slice p.sa c.length c.length, .pointer p.rest] 162)
    rw [hW3.out] at z3
    have hB13 : Below W1.heap.size W1 W3 := hB2.trans (hB23.mono hB2.size)
    have h3 := h1.out.under hB13
    have hB03 : Below w.heap.size w W3 := hB1.out.trans (hB13.mono hB1.out.size)
    obtain ⟨u0, u1, u2⟩ := cells3 z3
    have y2 : W3.cell? ⟨hb, 2, none⟩ = some (.int .i64 most) := (cells6 h3.hbk).2.2.1
    have hd : Below W3.heap.size W3 W3.drew := below_drew (Below.refl _ W3)
    have h3d := h3.under hd
    have hmd := made_any h3d
    rw [hn.out] at hmd
    replace hmd := hid_of hmd
    have hres3 : W3.drew.heap[w.heap.size]? = some (.cells #[.int .i64 0, .int .i64 0] 82 (0, 0)) := (hB13.block _ (Array.getElem?_eq_some_iff.1 z1.out).1).trans z1.out
    have hBd := hB03.trans (hd.mono hB03.size)
    obtain ⟨hfin, v0, v1⟩ := alloc_fin (num := 0) (gen := 0) (er := 5) hlo (FT.of_below hBd hlo) ⟨c, cs, p, hnx, h3d, hstk.out⟩ hres3
    replace hfin := hid_of hfin
    clear hpg hB2 hB23 hB13 z3 h1 h3 y3 hW1 hd h3d hBd hB03
    go_upto_region 6 with (rw [hW3.out])
    go_region_held3 (fun w' => w'.cell? ⟨hb, 2, none⟩ = some (.int .i64 most)) (go_keep) (first
      | (go_at_call 71; refine hmd.out.mono ?_; rintro e Z1 ⟨rfl, rfl⟩))
    clear hmd
    go_wp2_with (refine wpList_store_row rfl 82 _ _ rfl w.heap.size _ rfl rfl _ _ hres3 ref_i rfl (ref_one _ _) ?_)
    go_wp2_with fail
    exact bodyPost_ret (v := .tuple #[.agg #[.int .i64 0, .int .i64 0], .int .i64 5]) (by simp [results, Try.results52, go_sem, v0, v1]) rfl hfin.out
end
end Go.Proofs.Ytloeongljbgmnaa
