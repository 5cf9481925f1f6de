import Derived.Test.YtloeongljbgmnaaEQ
/-! epoch: a Publish that retires one node, which a pin holds. -/
namespace Go.Proofs.Ytloeongljbgmnaa
open Go Go.RowKit
section
variable {lo : Nat} {w : World} {x : Kx} {v : Kv}
set_option maxRecDepth 100000 in
set_option maxHeartbeats 4000000 in
theorem publish_one (h : KS lo w x v) (hlo : lo ≤ w.heap.size) (hc : v.cnt = 0) (hla : v.la = none) (hln : v.ln = 0) (hlc : v.lc = 0) (hva : v.a = 2) (hvb : v.b = 0) (s : Int) (na : Option Addr) (nn nc : Nat) (tg : Int) (hs : 2 ≤ s ∧ s ≤ 4611686018427387904) (b c : Nat) (num gen : Int) (h0 : w.cell? ⟨b, 0, none⟩ = some (.int .i64 num)) (h1 : w.cell? ⟨b, 1, none⟩ = some (.int .i64 gen)) : Calls Try.prog 9 #[.pointer (some ⟨x.kb, 0, none⟩), .pointer none, .agg #[.int .i64 s, .slice na nn nc, .int .i64 tg], .slice (some ⟨b, 0, none⟩) 1 c] w fun e w' => e = .returned (.int .i64 0) ∧ FH hot3 lo w w' ∧ ∃ la gr, w.heap.size ≤ gr ∧ One w' la gr num gen (s + 1) ∧ KS lo w' x { v with s := s, na := na, nn := nn, nc := nc, tg := tg, cnt := 1, la := la, ln := 1, lc := 1 } := by
  obtain ⟨W1, hW1⟩ : ∃ W1, Hid (w.alloc (.cells #[.int .i64 s, .slice na nn nc, .int .i64 tg] 28) = W1) := ⟨_, rfl⟩
  have z1 := heap_alloc_new w (.cells #[.int .i64 s, .slice na nn nc, .int .i64 tg] 28)
  have hB1 : Below w.heap.size w W1 := by rw [← hW1.out]; exact (Below.refl _ w).alloc (Nat.le_refl _) _
  rw [hW1.out] at z1
  obtain ⟨y0, y1, y2⟩ := cells3 z1
  have hbt := hid_of (batch_one s na nn nc tg b c num gen W1 ⟨by omega, hs.2⟩ (stay hB1 h0) (stay hB1 h1))
  replace hs := hid_of hs
  clear h0 h1
  replace h := hid_of h
  replace z1 := hid_of z1
  replace hB1 := hid_of hB1
  replace hc := hid_of hc
  replace hla := hid_of hla
  replace hln := hid_of hln
  replace hlc := hid_of hlc
  replace hva := hid_of hva
  replace hvb := hid_of hvb
  go_enter Try.func9, Try.ntmps9
  go_upto_region 4 with (rw [hW1.out])
  refine hbt.out.mono ?_
  rintro e W2 ⟨hB2, gr, rfl, hgr, kr⟩
  have hge : Hid (w.heap.size ≤ gr) := Nat.le_trans hB1.out.size hgr
  clear hgr
  obtain ⟨W3, hW3⟩ : ∃ W3, Hid (W2.alloc (.cells #[.slice (some ⟨gr, 0, none⟩) 1 1, .int .i64 (s + 1)] 61) = W3) := ⟨_, rfl⟩
  have z3 := heap_alloc_new W2 (.cells #[.slice (some ⟨gr, 0, none⟩) 1 1, .int .i64 (s + 1)] 61)
  have hB23 : Below W2.heap.size W2 W3 := by rw [← hW3.out]; exact (Below.refl _ W2).alloc (Nat.le_refl _) _
  rw [hW3.out] at z3
  have hB3 : Below w.heap.size w W3 := hB1.out.trans ((hB2.trans (hB23.mono hB2.size)).mono hB1.out.size)
  have k1 := ((hB2.trans (hB23.mono hB2.size)).block _ (Array.getElem?_eq_some_iff.1 z1.out).1).trans z1.out
  have y0 : W3.cell? ⟨w.heap.size, 0, none⟩ = some (.int .i64 s) := cell_of k1 rfl
  have y1 : W3.cell? ⟨w.heap.size, 1, none⟩ = some (.slice na nn nc) := cell_of k1 rfl
  have y2 : W3.cell? ⟨w.heap.size, 2, none⟩ = some (.int .i64 tg) := cell_of k1 rfl
  have kr3 := hid_of ((hB23.block _ (Array.getElem?_eq_some_iff.1 kr).1).trans kr)
  have h3 := h.out.under hB3
  obtain ⟨-, c1, -, -⟩ := cells4 h3.k
  obtain ⟨vbr, r1, r2⟩ := (h3.under (below_drew (Below.refl _ W3))).r
  have hrs := hid_of (rset_any x.rb vbr 4 0 s na nn nc tg W3.drew r1)
  clear r1 r2
  replace h3 := hid_of h3
  replace hB3 := hid_of hB3
  replace z3 := hid_of z3
  replace k1 := hid_of k1
  clear hbt hB2 hB23 hB1 z1 h hW1 kr
  go_upto_region 4 with (rw [hW3.out])
  go_region_held3 (fun w' => w'.cell? ⟨x.kb, 1, none⟩ = some (.pointer (some ⟨x.rb, 0, none⟩)) ∧ w'.cell? ⟨w.heap.size, 0, none⟩ = some (.int .i64 s) ∧ w'.cell? ⟨w.heap.size, 1, none⟩ = some (.slice na nn nc) ∧ w'.cell? ⟨w.heap.size, 2, none⟩ = some (.int .i64 tg)) (go_keep) (first
    | (go_at_call 23; refine hrs.out.mono ?_; rintro e W6 ⟨rfl, hF6, vb6, hv6, k6, m6⟩; have h6 := (h3.out.under (below_drew (Below.refl _ W3))).setR hF6 k6 m6; have q0 : W6.cell? ⟨x.kb, 1, none⟩ = some (.pointer (some ⟨x.rb, 0, none⟩)) := (cells4 h6.1.k).2.1; have z6 := h6.2.cold _ _ _ k1.out rfl; have q1 : W6.cell? ⟨w.heap.size, 0, none⟩ = some (.int .i64 s) := cell_of z6 rfl; have q2 : W6.cell? ⟨w.heap.size, 1, none⟩ = some (.slice na nn nc) := cell_of z6 rfl; have q3 : W6.cell? ⟨w.heap.size, 2, none⟩ = some (.int .i64 tg) := cell_of z6 rfl; replace h6 := hid_of h6; clear hF6 k6 z6 m6 hv6))
  obtain ⟨h6, hT6⟩ := h6.out
  have z6 := hT6.cold _ _ _ z3.out rfl
  obtain ⟨b0, b1⟩ := cells2 z6
  have hg := lget_any x.lb 4 3 v.cnt v.la v.ln v.lc W6 h6.l
  rw [hc.out, hla.out, hln.out, hlc.out] at hg
  have kr6 := hid_of (hT6.cold _ _ _ kr3.out rfl)
  obtain ⟨-, -, -, c3⟩ := cells4 h6.k
  have hT : Hid (FH hot3 lo w W6) := (FH.of_below (hB3.out.trans ((below_drew (Below.refl _ W3)).mono hB3.out.size)) hlo).trans hT6
  replace hg := hid_of hg
  replace h6 := hid_of h6
  replace z6 := hid_of z6
  clear hT6 z3 k1 h3 hB3 hrs c1 y0 y1 y2 q0 q1 q2 q3 hW3
  go_upto_region 6 with fail
  refine hg.out.mono ?_
  rintro e W7 ⟨rfl, hB7⟩
  obtain ⟨W8, hW8⟩ : ∃ W8, Hid (W7.alloc (.cells #[.int .i64 0, .slice none 0 0] 49) = W8) := ⟨_, rfl⟩
  have z8 := heap_alloc_new W7 (.cells #[.int .i64 0, .slice none 0 0] 49)
  have hB78 : Below W7.heap.size W7 W8 := by rw [← hW8.out]; exact (Below.refl _ W7).alloc (Nat.le_refl _) _
  rw [hW8.out] at z8
  have hB8 : Below W6.heap.size W6 W8 := hB7.trans (hB78.mono hB7.size)
  have hB67 : Hid (W6.heap.size ≤ W7.heap.size) := hB7.size
  have b0 := stay hB8 b0
  have b1 := stay hB8 b1
  obtain ⟨d0, d1⟩ := cells2 z8
  have kr8 := (hB8.block _ (Array.getElem?_eq_some_iff.1 kr6.out).1).trans kr6.out
  have hwi := hid_of (lwith_any gr num gen (s + 1) W8 kr8)
  replace hB8 := hid_of hB8
  replace z8 := hid_of z8
  clear hg hB7 hB78 c3 kr8 kr6 kr3
  go_upto_region 6 with fail
  rw [hW8.out]
  go_upto_region 8 with fail
  refine hwi.out.mono ?_
  rintro e W9 ⟨hB9, la, rfl, hone⟩
  have z9 := (hB9.block _ (Array.getElem?_eq_some_iff.1 z8.out).1).trans z8.out
  obtain ⟨X, hX⟩ : ∃ X, Hid (W9.setRow W7.heap.size #[.int .i64 1, .slice la 1 1] = X) := ⟨_, rfl⟩
  have hF : Fr (· = W7.heap.size) W9 X := by
    rw [← hX.out]
    exact ⟨rfl, rfl, rfl, by rw [size_setRow']; exact Nat.le_refl _, fun k _ hs => setRow_other W9 W7.heap.size k _ hs⟩
  have zX := setRow_heap W9 W7.heap.size _ #[.int .i64 1, .slice la 1 1] _ _ z9
  rw [hX.out] at zX
  have hone' : One X la gr num gen (s + 1) := by
    obtain ⟨gk, gb, o1, o2, o3, o4⟩ := hone.at_
    have kp : ∀ {b : Nat} {vs : Array Value} {ty : TypeId}, W9.heap[b]? = some (.cells vs ty (0, 0)) → ty ≠ 49 → X.heap[b]? = some (.cells vs ty (0, 0)) := fun {b vs ty} e ht => (hF.block b (Array.getElem?_eq_some_iff.1 e).1 (ne_of_types e z9 ht)).trans e
    exact ⟨gk, gb, o1, kp o2 (by decide), kp o3 (by decide), kp o4 (by decide)⟩
  have hB69 := hB8.out.trans (hB9.mono hB8.out.size)
  have hBX : Below W6.heap.size W6 X := ((Fr.of_below (S := fun _ => False) hB69).next hF (fun i hi => .inr (by have hi' : i = W7.heap.size := hi; rw [hi']; exact hB67.out))).below (Nat.le_refl _) (fun _ h => h.elim)
  have hK := h6.out.under hBX
  obtain ⟨p0, p1⟩ := cells2 zX
  obtain ⟨-, -, -, c3⟩ := cells4 hK.k
  have hls := hid_of (lset_any x.lb 4 3 v.cnt v.la v.ln v.lc 1 la 1 1 X.drew (hK.under (below_drew (Below.refl _ X))).l)
  have hTX : Hid (FH hot3 lo w X) := hT.out.trans (FH.of_below hBX (Nat.le_trans hlo hT.out.size))
  replace hK := hid_of hK
  replace zX := hid_of zX
  replace hone' := hid_of hone'
  clear hwi hB9 hone hF hB69 hBX b0 b1 d0 d1 z8 h6 hT hB8 z6
  go_upto_region 8 with (first | rw [hX.out] | (refine wpList_store_row rfl 49 _ _ rfl W7.heap.size _ rfl rfl _ _ z9 list_i rfl (ls_one _ _ _ _) ?_))
  go_region_held3 (fun w' => w'.cell? ⟨x.kb, 3, none⟩ = some (.pointer (some ⟨x.lb, 0, none⟩)) ∧ w'.cell? ⟨W7.heap.size, 0, none⟩ = some (.int .i64 1) ∧ w'.cell? ⟨W7.heap.size, 1, none⟩ = some (.slice la 1 1)) (go_keep) (first
    | (go_at_call 26; refine hls.out.mono ?_; rintro e Y ⟨rfl, kY, hFY⟩; have hY := (hK.out.under (below_drew (Below.refl _ X))).setL hFY kY; have q0 : Y.cell? ⟨x.kb, 3, none⟩ = some (.pointer (some ⟨x.lb, 0, none⟩)) := (cells4 hY.1.k).2.2.2; have zY := hY.2.cold _ _ _ zX.out rfl; have q1 : Y.cell? ⟨W7.heap.size, 0, none⟩ = some (.int .i64 1) := cell_of zY rfl; have q2 : Y.cell? ⟨W7.heap.size, 1, none⟩ = some (.slice la 1 1) := cell_of zY rfl; replace hY := hid_of hY; clear hFY kY zY))
  obtain ⟨hY, hTY⟩ := hY.out
  have hTY' : Hid (FH hot3 lo w Y) := (hTX.out.trans (FH.of_below (below_drew (Below.refl _ X)) (Nat.le_trans hlo hTX.out.size))).trans hTY
  have hoY : One Y la gr num gen (s + 1) := (hone'.out.under (below_drew (Below.refl _ X))).keep (fun b vs ty e ht => hTY.cold b vs ty e (hot3_K _ (hotK_L _ ht)))
  have hp := hid_of (pass_held hY hva.out hvb.out la gr num gen (s + 1) (by have := hs.out.1; omega) hoY)
  replace hY := hid_of hY
  replace hoY := hid_of hoY
  clear hTY hTX hK zX hone' hls c3 p0 p1 q0
  go_wp2_with fail
  refine hp.out.mono ?_
  rintro e Z ⟨rfl, hBZ⟩
  have hfin : Hid (FH hot3 lo w Z ∧ ∃ la gr, w.heap.size ≤ gr ∧ One Z la gr num gen (s + 1) ∧ KS lo Z x { v with s := s, na := na, nn := nn, nc := nc, tg := tg, cnt := 1, la := la, ln := 1, lc := 1 }) := ⟨hTY'.out.trans (FH.of_below hBZ (Nat.le_trans hlo hTY'.out.size)), la, gr, hge.out, hoY.out.under hBZ, hY.out.under hBZ⟩
  clear hp hBZ hY hoY hTY' q1 q2
  go_wp2_with fail
  go_ret
  exact ⟨rfl, hfin.out⟩
end
end Go.Proofs.Ytloeongljbgmnaa
