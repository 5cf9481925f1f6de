import Derived.Test.YtloeongljbgmnaaEP
/-! epoch: Pass, Publish. -/
namespace Go.Proofs.Ytloeongljbgmnaa
open Go Go.RowKit
section
variable {lo : Nat} {w : World} {x : Kx} {v : Kv}
set_option maxRecDepth 100000 in
set_option maxHeartbeats 2000000 in
theorem passk_any (h : KS lo w x v) (hlo : lo ≤ w.heap.size) (ha : v.a = 0) (hb : v.b = 0) (hc : v.cnt = 1) (hn : v.ln = 1) (hm : v.lc = 1) (gr : Nat) (t : Int) (h1 : One w v.la gr 1 1 t) (hH : HeapS lo w x.hb 5 1048576 [⟨1, true, 7⟩] []) : Calls Try.prog 10 #[.pointer (some ⟨x.kb, 0, none⟩), .pointer none] w fun e w' => e = .returned (.int .i64 1) ∧ FH hotK lo w w' ∧ HeapS lo w' x.hb 5 1048576 [⟨2, false, 0⟩] [1] ∧ ∃ la', KS lo w' x { v with cnt := 0, la := la', ln := 0, lc := 1 } := by
  obtain ⟨-, -, -, c3⟩ := cells4 h.k
  have hg := lget_any x.lb 4 3 v.cnt v.la v.ln v.lc w h.l
  rw [hc, hn, hm] at hg
  replace hg := hid_of hg
  have hp := hid_of (fun W (hW : Below w.heap.size w W) => pass_free (h.under hW) (Nat.le_trans hlo hW.size) ha hb v.la gr t (h1.under hW) (hH.under hW))
  clear h hc hn hm h1 hH
  go_enter Try.func10, Try.ntmps10
  go_wp2_with fail
  refine hg.out.mono ?_
  rintro e W2 ⟨rfl, hB⟩
  have hp2 := hid_of (hp.out W2 hB)
  replace hB := hid_of hB
  clear hg hp
  go_wp2_with fail
  refine hp2.out.mono ?_
  rintro e W3 ⟨rfl, hT, hH, hK⟩
  have hfin : Hid (FH hotK lo w W3 ∧ HeapS lo W3 x.hb 5 1048576 [⟨2, false, 0⟩] [1] ∧ ∃ la', KS lo W3 x { v with cnt := 0, la := la', ln := 0, lc := 1 }) := ⟨(FH.of_below hB.out hlo).trans hT, hH, hK⟩
  clear hp2 hT hH hK hB
  go_wp2_with fail
  go_ret
  exact ⟨rfl, hfin.out⟩
set_option maxRecDepth 100000 in
set_option maxHeartbeats 4000000 in
theorem publish_nil (h : KS lo w x v) (hlo : lo ≤ w.heap.size) (hc : v.cnt = 0) (s : Int) (na : Option Addr) (nn nc : Nat) (tg : Int) (a : Option Addr) (c : Nat) : Calls Try.prog 9 #[.pointer (some ⟨x.kb, 0, none⟩), .pointer none, .agg #[.int .i64 s, .slice na nn nc, .int .i64 tg], .slice a 0 c] w fun e w' => e = .returned (.int .i64 0) ∧ FH hot3 lo w w' ∧ KS lo w' x { v with s := s, na := na, nn := nn, nc := nc, tg := tg } := by
  obtain ⟨W1, hW1⟩ : ∃ W1, Hid (w.alloc (.cells #[.int .i64 s, .slice na nn nc, .int .i64 tg] 28) = W1) := ⟨_, rfl⟩
  have z1 := heap_alloc_new w (.cells #[.int .i64 s, .slice na nn nc, .int .i64 tg] 28)
  have hB1 : Below w.heap.size w W1 := by rw [← hW1.out]; exact (Below.refl _ w).alloc (Nat.le_refl _) _
  rw [hW1.out] at z1
  obtain ⟨y0, y1, y2⟩ := cells3 z1
  have hbt := hid_of (batch_nil s na nn nc tg a c W1)
  replace h := hid_of h
  replace z1 := hid_of z1
  replace hB1 := hid_of hB1
  replace hc := hid_of hc
  go_enter Try.func9, Try.ntmps9
  go_upto_region 4 with (rw [hW1.out])
  refine hbt.out.mono ?_
  rintro e W2 ⟨rfl, hB2⟩
  obtain ⟨W3, hW3⟩ : ∃ W3, Hid (W2.alloc (.cells #[.slice none 0 0, .int .i64 0] 61) = W3) := ⟨_, rfl⟩
  have z3 := heap_alloc_new W2 (.cells #[.slice none 0 0, .int .i64 0] 61)
  have hB23 : Below W2.heap.size W2 W3 := by rw [← hW3.out]; exact (Below.refl _ W2).alloc (Nat.le_refl _) _
  rw [hW3.out] at z3
  have hB3 : Below w.heap.size w W3 := hB1.out.trans ((hB2.trans (hB23.mono hB2.size)).mono hB1.out.size)
  have k1 := ((hB2.trans (hB23.mono hB2.size)).block _ (Array.getElem?_eq_some_iff.1 z1.out).1).trans z1.out
  have y0 : W3.cell? ⟨w.heap.size, 0, none⟩ = some (.int .i64 s) := cell_of k1 rfl
  have y1 : W3.cell? ⟨w.heap.size, 1, none⟩ = some (.slice na nn nc) := cell_of k1 rfl
  have y2 : W3.cell? ⟨w.heap.size, 2, none⟩ = some (.int .i64 tg) := cell_of k1 rfl
  have h3 := h.out.under hB3
  obtain ⟨-, c1, -, -⟩ := cells4 h3.k
  obtain ⟨vbr, r1, r2⟩ := (h3.under (below_drew (Below.refl _ W3))).r
  have hrs := hid_of (rset_any x.rb vbr 4 0 s na nn nc tg W3.drew r1)
  clear r1 r2
  replace h3 := hid_of h3
  replace hB3 := hid_of hB3
  replace z3 := hid_of z3
  replace k1 := hid_of k1
  clear hbt hB2 hB23 hB1 z1 h hW1
  go_upto_region 4 with fail
  rw [hW3.out]
  go_region_held3 (fun w' => w'.cell? ⟨x.kb, 1, none⟩ = some (.pointer (some ⟨x.rb, 0, none⟩)) ∧ w'.cell? ⟨w.heap.size, 0, none⟩ = some (.int .i64 s) ∧ w'.cell? ⟨w.heap.size, 1, none⟩ = some (.slice na nn nc) ∧ w'.cell? ⟨w.heap.size, 2, none⟩ = some (.int .i64 tg)) (go_keep) (first
    | (go_at_call 23; refine hrs.out.mono ?_; rintro e W6 ⟨rfl, hF6, vb6, hv6, k6, m6⟩; have h6 := (h3.out.under (below_drew (Below.refl _ W3))).setR hF6 k6 m6; have q0 : W6.cell? ⟨x.kb, 1, none⟩ = some (.pointer (some ⟨x.rb, 0, none⟩)) := (cells4 h6.1.k).2.1; have z6 := h6.2.cold _ _ _ k1.out rfl; have q1 : W6.cell? ⟨w.heap.size, 0, none⟩ = some (.int .i64 s) := cell_of z6 rfl; have q2 : W6.cell? ⟨w.heap.size, 1, none⟩ = some (.slice na nn nc) := cell_of z6 rfl; have q3 : W6.cell? ⟨w.heap.size, 2, none⟩ = some (.int .i64 tg) := cell_of z6 rfl; replace h6 := hid_of h6; clear hF6 k6 z6 m6 hv6))
  obtain ⟨h6, hT6⟩ := h6.out
  have z6 := hT6.cold _ _ _ z3.out rfl
  obtain ⟨b0, b1⟩ := cells2 z6
  have hg := lget_any x.lb 4 3 v.cnt v.la v.ln v.lc W6 h6.l
  rw [hc.out] at hg
  obtain ⟨-, -, -, c3⟩ := cells4 h6.k
  have hT : Hid (FH hot3 lo w W6) := (FH.of_below (hB3.out.trans ((below_drew (Below.refl _ W3)).mono hB3.out.size)) hlo).trans hT6
  replace hg := hid_of hg
  replace h6 := hid_of h6
  replace z6 := hid_of z6
  clear hT6 z3 k1 h3 hB3 hrs c1 y0 y1 y2 q0 q1 q2 q3 hW3
  go_upto_region 6 with fail
  refine hg.out.mono ?_
  rintro e W7 ⟨rfl, hB7⟩
  obtain ⟨W8, hW8⟩ : ∃ W8, Hid (W7.alloc (.cells #[.int .i64 0, .slice v.la v.ln v.lc] 49) = W8) := ⟨_, rfl⟩
  have z8 := heap_alloc_new W7 (.cells #[.int .i64 0, .slice v.la v.ln v.lc] 49)
  have hB78 : Below W7.heap.size W7 W8 := by rw [← hW8.out]; exact (Below.refl _ W7).alloc (Nat.le_refl _) _
  rw [hW8.out] at z8
  have hB8 : Below W6.heap.size W6 W8 := hB7.trans (hB78.mono hB7.size)
  have b0 := stay hB8 b0
  obtain ⟨d0, d1⟩ := cells2 z8
  have hp := hid_of (pass_zero (x := x) v.la v.ln v.lc W8)
  replace hB8 := hid_of hB8
  clear hg hB7 hB78 z8 c3 b1
  go_upto_region 6 with (rw [hW8.out])
  go_wp2_with fail
  refine hp.out.mono ?_
  rintro e W9 ⟨rfl, hB9⟩
  have hB69 := hB8.out.trans (hB9.mono hB8.out.size)
  have hfin : Hid (FH hot3 lo w W9 ∧ KS lo W9 x { v with s := s, na := na, nn := nn, nc := nc, tg := tg }) := ⟨hT.out.trans (FH.of_below hB69 (Nat.le_trans hlo hT.out.size)), h6.out.under hB69⟩
  clear hp hB9 hB69 hT h6 hB8 hW8 d0 d1 b0 z6
  go_wp2_with fail
  go_ret
  exact ⟨rfl, hfin.out⟩
end
end Go.Proofs.Ytloeongljbgmnaa
