import Derived.Test.YtloeongljbgmnaaHH
/-! heap: Alloc. -/
namespace Go.Proofs.Ytloeongljbgmnaa
open Go Go.RowKit
theorem meth_set (n : Nat) (a : Option Addr) (w : World) : (method (n + 1) 209 (.pointer a) "Set").run Try.prog w = .ok (113, .pointer a) w := by kernel_rfl
theorem gen_of (gen val : Int) (live : Bool) (w : World) : (Instr.field 136 (.agg #[.int .i64 gen, .bool live, .int .i64 val]) 0).run Try.prog w = .ok (.int .i64 gen) w := by kernel_rfl
/-- The cells that makeOne reads. -/
theorem heldX {Z : World} {hb b : Nat} {p0 p1 p2 v : Value} (h : Z.cell? ⟨hb, 0, none⟩ = some p0 ∧ Z.cell? ⟨hb, 1, none⟩ = some p1 ∧ Z.cell? ⟨b, 0, none⟩ = some p2) (hne : hb ≠ b) : (Z.setCell ⟨hb, 5, none⟩ v).cell? ⟨hb, 0, none⟩ = some p0 ∧ (Z.setCell ⟨hb, 5, none⟩ v).cell? ⟨hb, 1, none⟩ = some p1 ∧ (Z.setCell ⟨hb, 5, none⟩ v).cell? ⟨b, 0, none⟩ = some p2 := by
  refine ⟨(World.cell?_setCell_other _ _ _ _ (fun e => ?_)).trans h.1, (World.cell?_setCell_other _ _ _ _ (fun e => ?_)).trans h.2.1, (World.cell?_setCell_other _ _ _ _ (fun e => ?_)).trans h.2.2⟩
  · cases e
  · cases e
  · exact hne (congrArg Addr.block e)
section
variable {lo : Nat} {w : World} {hb : Nat} {obj most : Int} {ns : List Nd} {c : List Int} {cs : List (List Int)} {p : Pl}
/-- Blocks of one type that no heap has may change. -/
theorem HeapV.keepT (h : HeapV lo w hb obj most ns c cs p) {w' : World} (hk : ∀ (b : Nat) vs t, w.heap[b]? = some (.cells vs t (0, 0)) → t ≠ 82 → w'.heap[b]? = w.heap[b]?) : HeapV lo w' hb obj most ns c cs p := by
  have k : ∀ {b : Nat} {vs : Array Value} {t : TypeId}, w.heap[b]? = some (.cells vs t (0, 0)) → t ≠ 82 → w'.heap[b]? = some (.cells vs t (0, 0)) := fun {b vs t} e ht => (hk b vs t e ht).trans e
  exact ⟨k h.hbk (by decide), k h.wbk (by decide), k h.pbk (by decide), h.pool.keep (fun b cs hb => hb.elim (fun e => (k e (by decide)).trans e.symm) (fun e => (k e (by decide)).trans e.symm)), k h.mbk (by decide), ownsRow_keep h.row (fun g cs e => (k e (by decide)).trans e.symm), fun i x hx => k (h.nd i x hx) (by decide), h.inj, h.lh, h.lp, h.ln⟩
theorem HeapV.ref (h : HeapV lo w hb obj most ns c cs p) {g : Nat} {vs : Array Value} (hg : w.heap[g]? = some (.cells vs 82 (0, 0))) (us : Array Value) : HeapV lo (w.setRow g us) hb obj most ns c cs p :=
  h.keepT (fun b vs' t e ht => setRow_other w g b us (fun eb => by subst eb; rw [hg] at e; cases e; exact ht rfl))
theorem FT.fresh {x : World} (h : FT lo w x) {g : Nat} (hg : w.heap.size ≤ g) (hlo : lo ≤ w.heap.size) (us : Array Value) : FT lo w (x.setRow g us) :=
  ⟨below_setRow' h.below (by omega) us, fun b o hb hc => (setRow_other x g b us (by have := (Array.getElem?_eq_some_iff.1 hb).1; omega)).trans (h.cold b o hb hc)⟩
/-- A cell that is not yet one of the heap's is written. -/
theorem HeapV.other (h : HeapV lo w hb obj most ns c cs p) {nb : Nat} {vs : Array Value} (hN : w.heap[nb]? = some (.cells vs 219 (0, 0))) (hnb : ∀ i, i < ns.length → p.N i ≠ nb) (hlo : lo ≤ nb) {w' : World} (hF : Fr (· = nb) w w') : HeapV lo w' hb obj most ns c cs p ∧ FT lo w w' := by
  have hT : FT lo w w' := FT.of_fr hF hN rfl hlo
  have k : ∀ {b : Nat} {us : Array Value} {t : TypeId}, w.heap[b]? = some (.cells us t (0, 0)) → t ≠ 219 → w'.heap[b]? = some (.cells us t (0, 0)) := fun {b us t} e ht => (hF.block b (Array.getElem?_eq_some_iff.1 e).1 (fun eb => by subst eb; rw [hN] at e; cases e; exact ht rfl)).trans e
  exact ⟨⟨k h.hbk (by decide), k h.wbk (by decide), k h.pbk (by decide), h.pool.keep hT.still, k h.mbk (by decide), ownsRow_keep h.row (fun g cs e => (k e (by decide)).trans e.symm), fun i x hx => (hF.block _ (Array.getElem?_eq_some_iff.1 (h.nd i x hx)).1 (hnb i (List.getElem?_eq_some_iff.1 hx).1)).trans (h.nd i x hx), h.inj, h.lh, h.lp, h.ln⟩, hT⟩
theorem ref_i : (Try.prog.info? 82).map (·.size) = some 2 := by kernel_rfl
theorem ref_one (a b : Int) : (#[.int .i64 a, .int .i64 b] : Array Value).all (·.oneCell') = true := by simp [Value.oneCell']
set_option maxRecDepth 100000 in
set_option maxHeartbeats 4000000 in
theorem makeone_any (h : HeapV lo w hb obj most ns c cs p) (hnx : p.nx = .nilIface) (hlo : lo ≤ w.heap.size) (hl : ns.length ≤ 1048576) (v : Int) :
    Calls Try.prog 72 #[.pointer (some ⟨hb, 0, none⟩), .pointer none, .int .i64 v] w fun e w' => e = .returned (.agg #[.int .i64 ((ns.length : Int) + 1), .int .i64 1]) ∧ FT lo w w' ∧ ∃ p', p'.nx = .nilIface ∧ HeapV lo w' hb obj most (ns ++ [⟨1, true, v⟩]) c cs p' := by
  obtain ⟨n, hn⟩ : ∃ n, Hid (ns.length = n) := ⟨_, rfl⟩
  obtain ⟨W1, hW1⟩ : ∃ W1, Hid (w.alloc (.cells #[.int .i64 0, .int .i64 0] 82) = W1) := ⟨_, rfl⟩
  have hB1 : Below w.heap.size w W1 := by rw [← hW1.out]; exact (Below.refl _ w).alloc (Nat.le_refl _) _
  have z1 := heap_alloc_new w (.cells #[.int .i64 0, .int .i64 0] 82)
  rw [hW1.out] at z1
  have hs1 : Hid (W1.heap.size = w.heap.size + 1) := by unfold Hid; rw [← hW1.out]; simp
  have h1 := h.under hB1
  have hmd := hid_of (made_any h1)
  obtain ⟨W2, hW2⟩ : ∃ W2, Hid (W1.alloc (.cells #[.int .i64 ((n : Int) + 1), .int .i64 1] 82) = W2) := ⟨_, rfl⟩
  have hB12 : Below W1.heap.size W1 W2 := by rw [← hW2.out]; exact (Below.refl _ W1).alloc (Nat.le_refl _) _
  have z2 := heap_alloc_new W1 (.cells #[.int .i64 ((n : Int) + 1), .int .i64 1] 82)
  rw [hW2.out] at z2
  have hB2 : Below w.heap.size w W2 := hB1.trans (hB12.mono hB1.size)
  have h2 := h.under hB2
  obtain ⟨y0, y1, -, -, -, y5⟩ := cells6 h2.hbk
  rw [hnx] at y5
  have f5 : W2.frozen? ⟨hb, 5, none⟩ = false := warm h2.hbk
  have u0 : W2.cell? ⟨W1.heap.size, 0, none⟩ = some (.int .i64 ((n : Int) + 1)) := cell_of z2 rfl
  have u1 : W2.cell? ⟨W1.heap.size, 1, none⟩ = some (.int .i64 1) := cell_of z2 rfl
  have hwb := cell_of (k := 0) h2.wbk rfl
  have hnc := hid_of (fun W (hW : Below W2.heap.size W2 W) => newcell_any p.wb obj ((n : Int) + 1) W (stay hW hwb))
  rw [hn.out] at hmd hl ⊢
  have hhb2 : Hid (hb < W2.heap.size) := (Array.getElem?_eq_some_iff.1 h2.hbk).1
  have hhw : Hid (hb < w.heap.size) := (Array.getElem?_eq_some_iff.1 h.hbk).1
  have hne : hb ≠ W1.heap.size := by have := hs1.out; have := hhw.out; omega
  have z1' : Hid (W2.heap[w.heap.size]? = some (.cells #[.int .i64 0, .int .i64 0] 82 (0, 0))) := (hB12.block _ (by have := hs1.out; omega)).trans z1
  replace h2 := hid_of h2
  replace hB2 := hid_of hB2
  replace z2 := hid_of z2
  clear h h1 z1 hB1 hB12 hwb
  go_enter Try.func72, Try.ntmps72
  go_wp2_with (rw [hW1.out])
  refine hmd.out.mono ?_
  rintro e W3 ⟨rfl, hw⟩
  obtain rfl : W1 = W3 := hw.symm
  clear hmd hw
  go_upto_region 3 with (rw [hW2.out])
  go_region_held3 (fun w' => w'.cell? ⟨hb, 0, none⟩ = some (.pointer (some ⟨p.wb, 0, none⟩)) ∧ w'.cell? ⟨hb, 1, none⟩ = some (.int .i64 obj) ∧ w'.cell? ⟨W1.heap.size, 0, none⟩ = some (.int .i64 ((n : Int) + 1)) ) (first | exact heldX ⟨t0, t1, t2⟩ hne | go_keep) (first
    | (go_at_call 81; refine (hnc.out W2.drew (below_drew (Below.refl _ W2))).mono ?_; rintro e Z1 ⟨nb, rfl, hn1, hn2, hz1⟩; have t0 : Z1.cell? ⟨hb, 0, none⟩ = some (.pointer (some ⟨p.wb, 0, none⟩)) := stay hz1 y0; have t1 : Z1.cell? ⟨hb, 1, none⟩ = some (.int .i64 obj) := stay hz1 y1; have t2 : Z1.cell? ⟨W1.heap.size, 0, none⟩ = some (.int .i64 ((n : Int) + 1)) := stay hz1 u0; have t3 : Z1.cell? ⟨hb, 5, none⟩ = some .nilIface := stay hz1 y5; have hb1 : Hid (Below W2.heap.size W2 Z1) := (below_drew (Below.refl _ W2)).trans hz1; have t4 : Z1.frozen? ⟨hb, 5, none⟩ = false := warm (h2.out.under hb1.out).hbk; replace hn1 := hid_of hn1; replace hn2 := hid_of hn2; clear hz1; unfold ifN))
  have hnbl : ∀ i, i < ns.length → p.N i ≠ nb := fun i hi e => by
    have h1 := (Array.getElem?_eq_some_iff.1 (h2.out.nd i _ (List.getElem?_eq_getElem hi))).1
    have h3 : W2.heap.size ≤ nb := hn1.out
    omega
  have hlnb : lo ≤ nb := by
    have h3 : W2.heap.size ≤ nb := hn1.out
    have := hB2.out.size
    omega
  have hne5 : hb ≠ nb := by
    have h3 : W2.heap.size ≤ nb := hn1.out
    have := hhb2.out
    omega
  obtain ⟨h3, hT3⟩ := (h2.out.under hb1.out).setX (ifN nb)
  unfold ifN at h3 hT3
  obtain ⟨Z3, hZ3⟩ : ∃ Z3, Hid (Z1.setCell ⟨hb, 5, none⟩ (.iface 209 (.pointer (some ⟨nb, 0, none⟩))) = Z3) := ⟨_, rfl⟩
  rw [hZ3.out] at h3 hT3
  have hF3 : Fr (· = hb) Z1 Z3 := by rw [← hZ3.out]; exact (Fr.refl _ Z1).set _ _ (.inl rfl)
  have x5 : Z3.cell? ⟨hb, 5, none⟩ = some (.iface 209 (.pointer (some ⟨nb, 0, none⟩))) := (cells6 h3.hbk).2.2.2.2.2
  have hbox : Z1.heap[W1.heap.size]? = some (.cells #[.int .i64 ((n : Int) + 1), .int .i64 1] 82 (0, 0)) := (hb1.out.block _ (Array.getElem?_eq_some_iff.1 z2.out).1).trans z2.out
  have hres : Z1.heap[w.heap.size]? = some (.cells #[.int .i64 0, .int .i64 0] 82 (0, 0)) := (hb1.out.block _ (Array.getElem?_eq_some_iff.1 z1'.out).1).trans z1'.out
  have hbox3 := hT3.cold _ _ hbox rfl
  have hres3 := hT3.cold _ _ hres rfl
  have x1 : Z3.cell? ⟨W1.heap.size, 1, none⟩ = some (.int .i64 1) := cell_of hbox3 rfl
  have x0 : Z3.cell? ⟨W1.heap.size, 0, none⟩ = some (.int .i64 ((n : Int) + 1)) := cell_of hbox3 rfl
  have hN3 := (hF3.block nb (Array.getElem?_eq_some_iff.1 hn2.out).1 (fun e => hne5 e.symm)).trans hn2.out
  have hst := hid_of (nset_any nb obj ((n : Int) + 1) 0 false 0 1 true v Z3 hN3)
  have hT03 : Hid (FT lo w Z3) := (FT.of_below (hB2.out.trans (hb1.out.mono hB2.out.size)) hlo).trans hT3
  replace h3 := hid_of h3
  replace hnbl := hid_of hnbl
  replace hN3 := hid_of hN3
  have hmt := meth_set
  clear t0 t1 t2 t3 t4 y0 y1 y5 f5 u0 u1 hnc hn1 hn2 hbox hres hF3 hT3 hb1 h2 hW1 hW2 z1' z2 hne
  go_wp2_with (rw [hZ3.out])
  refine hst.out.mono ?_
  rintro e W6 ⟨rfl, hN6, hF6⟩
  obtain ⟨h6, hT6⟩ := h3.out.other hN3.out hnbl.out hlnb hF6
  have hbox6 := hT6.cold _ _ hbox3 rfl
  have hres6 := hT6.cold _ _ hres3 rfl
  have q0 : W6.cell? ⟨W1.heap.size, 0, none⟩ = some (.int .i64 ((n : Int) + 1)) := cell_of hbox6 rfl
  have had := add_any h6 (Nat.le_trans hlo (Nat.le_trans hT03.out.size hT6.size)) (by rw [hn.out]; exact hl) nb ⟨1, true, v⟩ (by rw [hn.out]; exact hN6) hnbl.out hlnb
  rw [hn.out] at had
  unfold ifN at had
  replace had := hid_of had
  have hT06 : Hid (FT lo w W6) := hT03.out.trans hT6
  clear hst h3 hN3 hbox3 hres3 x0 x1 x5 hN6 hF6 h6 hT6 hZ3 hmt hT03
  go_wp2_with fail
  refine had.out.mono ?_
  rintro e W7 ⟨rfl, hT7, p', hp', h7⟩
  have hbox7 := hT7.cold _ _ hbox6 rfl
  have hres7 := hT7.cold _ _ hres6 rfl
  have q1 : W7.cell? ⟨W1.heap.size, 0, none⟩ = some (.int .i64 ((n : Int) + 1)) := cell_of hbox7 rfl
  have q2 : W7.cell? ⟨W1.heap.size, 1, none⟩ = some (.int .i64 1) := cell_of hbox7 rfl
  have k8 := setRow_heap W7 w.heap.size _ #[.int .i64 ((n : Int) + 1), .int .i64 1] _ _ hres7
  have v0 : (W7.setRow w.heap.size #[.int .i64 ((n : Int) + 1), .int .i64 1]).cell? ⟨w.heap.size, 0, none⟩ = some (.int .i64 ((n : Int) + 1)) := cell_of k8 rfl
  have v1 : (W7.setRow w.heap.size #[.int .i64 ((n : Int) + 1), .int .i64 1]).cell? ⟨w.heap.size, 1, none⟩ = some (.int .i64 1) := cell_of k8 rfl
  have hfin : Hid (FT lo w (W7.setRow w.heap.size #[.int .i64 ((n : Int) + 1), .int .i64 1]) ∧ ∃ p', p'.nx = .nilIface ∧ HeapV lo (W7.setRow w.heap.size #[.int .i64 ((n : Int) + 1), .int .i64 1]) hb obj most (ns ++ [⟨1, true, v⟩]) c cs p') := ⟨(hT06.out.trans hT7).fresh (Nat.le_refl _) hlo _, p', hp', h7.ref hres7 _⟩
  clear had hbox6 hres6 q0 h7 hT7 k8 hbox7 hT06
  go_wp2_with (refine wpList_store_row rfl 82 _ _ rfl w.heap.size _ rfl rfl _ _ hres7 ref_i rfl (ref_one _ _) ?_)
  go_wp2_with fail
  exact bodyPost_ret (v := .agg #[.int .i64 ((n : Int) + 1), .int .i64 1]) (by simp [results, Try.results72, go_sem, v0, v1]) rfl ⟨rfl, hfin.out⟩
end
end Go.Proofs.Ytloeongljbgmnaa
