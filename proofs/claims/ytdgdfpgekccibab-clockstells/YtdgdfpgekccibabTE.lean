import Derived.Test.YtdgdfpgekccibabTD
import Derived.Test.YtdgdfpgekccibabRE
/-! ClocksTells. -/
namespace Go.Proofs.Ytdgdfpgekccibab
open Go Go.ChangeShapes Go.WideShapes Go.ChangeAt Go.RowKit
set_option maxHeartbeats 8000000 in
set_option maxRecDepth 100000 in
theorem tells_true (a : Option Addr) (cap : Nat) (evs : List Ev) (clients : Int) (w : World) (hE : EvsAt w a evs) (hcap : evs.length ≤ cap) (hcm : cap ≤ 9223372036854775807) (hwf : ∀ e ∈ evs, I64 e.o ∧ I64 e.n) (hsz : (evs.length + 8) * 32 ≤ 140737488355328) :
    Calls Try.prog 4 #[.slice a evs.length cap, .int .i64 clients] w fun e w' => e = .returned (.bool true) ∧ Below w.heap.size w w' := by
  by_cases hl : 200 < evs.length ∧ evs.length ≤ 1048576
  · obtain ⟨hl1, hl2⟩ := hl
    go_enter Try.func4, Try.ntmps4
    go_wp2_with fail
    exact bodyPost_ret (v := .bool true) (by simp [results, Try.results4, go_sem]) rfl ⟨rfl, Below.refl _ w⟩
  · have hn2 : chk evs clients = 0 → evs.length ≤ 200 := fun h0 => by
      obtain ⟨-, -, q3, -⟩ := chk_ok h0
      omega
    have hnc : clients.toNat ≤ 16 ∨ mT evs clients = 0 := by
      by_cases h0 : chk evs clients = 0
      · obtain ⟨-, q2, -, -⟩ := chk_ok h0
        exact .inl (by omega)
      · exact .inr (if_neg h0)
    have hm2 : mT evs clients ≤ 200 := by
      unfold mT
      split
      · next h0 => exact hn2 h0
      · omega
    have hown := hid_of (own_any a cap evs w hE hsz)
    have hnum := hid_of num_any
    obtain ⟨n, hn⟩ : ∃ n, Hid (evs.length = n) := ⟨_, rfl⟩
    obtain ⟨ck, hck⟩ : ∃ ck, Hid (chk evs clients = ck) := ⟨_, rfl⟩
    obtain ⟨m, hmm⟩ : ∃ m, Hid (mT evs clients = m) := ⟨_, rfl⟩
    obtain ⟨nc, hnn⟩ : ∃ nc, Hid (clients.toNat = nc) := ⟨_, rfl⟩
    rw [hmm.out] at hnc hm2
    rw [hnn.out] at hnc
    rw [hn.out] at hl
    have hcl : Hid (evs.length ≤ cap) := hcap
    rw [hn.out] at hcap ⊢
    rw [hn.out] at hown
    have hsz' : (n + 8) * 32 ≤ 140737488355328 := by rw [← hn.out]; exact hsz
    go_enter Try.func4, Try.ntmps4
    by_cases hbig : 200 < n
    · have hbig2 : ¬ n ≤ 1048576 := fun h => hl ⟨hbig, h⟩
      go_wp2_with fail
      refine hown.out.mono ?_
      clear hown
      rintro e W1 ⟨hB1, g0, c, rfl, hO⟩
      obtain ⟨hE1, hc1, hc2, -, hg0⟩ := own_evs hO
      unfold maxLen at hc2
      have hs1 := hid_of (clocks_any (some ⟨g0, 0, none⟩) c evs clients W1 hE1 (by omega) (by omega) hwf)
      rw [hn.out] at hs1
      rw [hn.out]
      go_wp2_with fail
      refine hs1.out.mono ?_
      clear hs1
      rintro e W2 hP2
      obtain ⟨hB2, ga, ca, G, rfl, hr1, hr2, hr3, hr4⟩ := clocks_form (by omega) hP2
      rw [hck.out, hmm.out]
      rw [hmm.out] at hr1 hr3 hr4
      rw [hnn.out] at hr3 hr4
      have hs2 := hid_of (clocks_any (some ⟨g0, 0, none⟩) c evs clients W2 (hE1.keep hB2) (by omega) (by omega) hwf)
      rw [hn.out] at hs2
      go_wp2_with fail
      refine hs2.out.mono ?_
      clear hs2
      rintro e W3 hP3
      obtain ⟨hB3, ba, cb, H, rfl, hu1, hu2, hu3, -⟩ := clocks_form (by omega) hP3
      rw [hck.out, hmm.out]
      rw [hmm.out] at hu1 hu3
      rw [hnn.out] at hu3
      have hB13 : Below W1.heap.size W1 W3 := hB2.trans (hB3.mono hB2.size)
      have hB03 : Below w.heap.size w W3 := hB1.trans (hB13.mono hB1.size)
      have hs3 := hid_of (refclocks_any a cap evs clients W3 (hE.keep hB03) hcl.out hcm hn2)
      rw [hn.out] at hs3
      go_wp2_with fail
      refine hs3.out.mono ?_
      clear hs3
      rintro e W4 hP4
      obtain ⟨hB4, sa, sc, K, rfl, hq1, hq2, hq3⟩ := refclocks_form hP4
      rw [hck.out, hmm.out]
      rw [hmm.out] at hq1 hq3
      rw [hnn.out] at hq3
      have hB24 : Below W2.heap.size W2 W4 := hB3.trans (hB4.mono hB3.size)
      have hB14 : Below W1.heap.size W1 W4 := hB2.trans (hB24.mono hB2.size)
      have hB04 : Below w.heap.size w W4 := hB1.trans (hB14.mono hB1.size)
      have hr3' := hr3.under hB24
      have hu3' := hu3.under hB4
      have hsa := hid_of (tell_same hr3' hq3 hr1 hq1 ⟨hr2, hq2⟩ hnc)
      have hsb := hid_of (fun (W : World) (hW : ∀ b, W2.heap.size ≤ b → b < W4.heap.size → W.heap[b]? = W4.heap[b]?) (hS : W4.heap.size ≤ W.heap.size) => tell_same (hu3'.keep hS (fun b b1 b2 => hW b b1 b2)) (hq3.keep hS (fun b b1 b2 => hW b (Nat.le_trans hB3.size b1) b2)) hu1 hq1 ⟨hu2, hq2⟩ hnc)
      have hkp := hid_of (fun W (hW : Below W4.heap.size W4 W) => kept_any a cap g0 c _ evs W ((hE.keep hB04).keep hW) hcl.out hcm ((hE1.keep hB14).keep hW) hc1 hc2 (ownsRow_keep hO (fun b e => by cases e; exact (hW.block _ (Nat.lt_of_lt_of_le hg0 hB14.size)).trans (hB14.block _ hg0))))
      rw [hn.out] at hkp
      have hsp : Hid (0 < m → ∃ g, ga = some ⟨g, 0, none⟩ ∧ w.heap.size ≤ g ∧ g < W2.heap.size ∧ (∀ p, p < m → w.heap.size ≤ G p ∧ G p < W2.heap.size ∧ G p ≠ g) ∧ (∀ i j, i < m → j < m → G i = G j → i = j) ∧ ∀ W, Below W4.heap.size W4 W → SpAt w.heap.size W2.heap.size W W g m nc G 0) := fun h => by
        obtain ⟨g, e1, hc⟩ := hr4 h
        refine ⟨g, e1, Nat.le_trans hB1.size hc.lo, hc.row.lt, fun p hp => ⟨Nat.le_trans hB1.size (hc.each p hp).1, (hc.each p hp).2.2.lt, (hc.each p hp).2.1⟩, hc.inj, fun W hW => ?_⟩
        have hk : Below W2.heap.size W2 W := hB24.trans (hW.mono hB24.size)
        exact ⟨⟨_, hc.row.of_block (hk.block _ hc.row.lt), fun q _ _ => rfl⟩, fun q _ hq => ⟨_, (hc.each q hq).2.2.of_block (hk.block _ (hc.each q hq).2.2.lt)⟩, fun b _ _ => rfl, Below.refl _ W⟩
      have hB24s : Hid (W2.heap.size ≤ W4.heap.size) := hB24.size
      replace hB04 := hid_of hB04
      clear hP2 hP3 hP4 hr3 hr4 hu3 hq3 hB1 hB2 hB3 hB4 hB13 hB03 hB24 hB14 hr3' hu3' hO hE1 hg0
      go_wp2_with fail
      refine (hnum.out ck W4).mono ?_
      rintro e Z ⟨rfl, hz⟩
      obtain rfl : W4 = Z := hz.symm
      clear hz
      go_wp2_with fail
      refine hsa.out.mono ?_
      rintro e W5 ⟨rfl, hB5⟩
      have hs5 := hid_of (hsb.out W5 (fun b _ b2 => hB5.block b b2) hB5.size)
      replace hB5 := hid_of hB5
      clear hsa
      go_wp2_with fail
      refine hs5.out.mono ?_
      rintro e W6 ⟨rfl, hB6⟩
      have hB46 : Below W4.heap.size W4 W6 := hB5.out.trans (hB6.mono hB5.out.size)
      have hk6 := hid_of (hkp.out W6 hB46)
      replace hB46 := hid_of hB46
      clear hs5 hkp hB5 hB6
      go_wp2_with fail
      refine hk6.out.mono ?_
      rintro e W7 ⟨rfl, hB7⟩
      have hB47 : Hid (Below W4.heap.size W4 W7) := hB46.out.trans (hB7.mono hB46.out.size)
      have hB07 : Hid (Below w.heap.size w W7) := hB04.out.trans (hB47.out.mono hB04.out.size)
      clear hk6 hB7 hB46 hB04
      obtain ⟨ri, hri, hri1, hri2, hri3⟩ := iint_info
      obtain ⟨lo, hlo⟩ : ∃ lo, Hid (w.heap.size = lo) := ⟨_, rfl⟩
      obtain ⟨B2, hB2s⟩ : ∃ B2, Hid (W2.heap.size = B2) := ⟨_, rfl⟩
      rw [hlo.out, hB2s.out] at hsp
      rw [hB2s.out] at hB24s
      go_wp2_with fail
      go_loopw [12] (fun iv wr => ∃ i : Nat, iv = .int .i64 (i : Nat) ∧ i ≤ m ∧ (∀ b, B2 ≤ b → b < W7.heap.size → wr.heap[b]? = W7.heap[b]?) ∧ Below lo W7 wr ∧ (∀ g, ga = some ⟨g, 0, none⟩ → 0 < m → SpAt lo B2 W7 wr g m nc G i)) (fun iv _ => m - (intOf iv).toNat)
      case atStart => exact ⟨0, rfl, Nat.zero_le _, fun b _ _ => rfl, Below.refl _ W7, fun g eg h0 => by obtain ⟨g', e1, -, -, -, -, h⟩ := hsp.out h0; rw [eg] at e1; cases e1; exact h W7 hB47.out⟩
      case round =>
        obtain ⟨wo, hwo⟩ : ∃ wo : World, wo = wr := ⟨_, rfl⟩
        subst hwo
        obtain ⟨i, rfl, him, hmid, hbel, hSp⟩ := hrel
        by_cases hi : i < m
        · obtain ⟨g, e1, hlg, hgB, hGs, hinj, -⟩ := hsp.out (by omega)
          subst e1
          have hS := hSp g rfl (by omega)
          have hncl : nc ≤ 16 := by rcases hnc with h | h <;> omega
          obtain ⟨hGl, hGB, hGg⟩ := hGs i hi
          replace hS := hid_of hS
          replace hGs := hid_of hGs
          replace hinj := hid_of hinj
          clear hSp hmid hbel
          go_wp2_with fail
          go_loopw [13] (fun kv wr2 => ∃ k : Nat, kv = .int .i64 (k : Nat) ∧ k ≤ nc ∧ SpAt lo B2 W7 wr2 g m nc G i) (fun kv _ => nc - (intOf kv).toNat)
          case atStart => exact ⟨0, rfl, Nat.zero_le _, hS.out⟩
          case round =>
            clear hS
            obtain ⟨wr2, hwo⟩ : ∃ wr2 : World, wr2 = wr := ⟨_, rfl⟩
            subst hwo
            obtain ⟨k, rfl, hkn, hS2⟩ := hrel
            obtain ⟨f, t1, t2⟩ := hS2.top
            have y0 := t1.cell hi
            rw [t2 i (Nat.le_refl _) hi] at y0
            by_cases hk : k < nc
            · obtain ⟨f', rr⟩ := hS2.rows i (Nat.le_refl _) hi
              have y1 := rr.cell hk
              have z1 := rr.frozen k
              have hS3 := hid_of (hS2.mark (k := k) hGl hGB hGg (.int .i64 (-1)))
              clear hS2 t1 t2 rr
              go_wp2_with fail
              go_roundw
              case rel => exact ⟨k + 1, by go_num, by omega, hS3.out⟩
              case measure =>
                simp only [intOf]
                omega
            · obtain rfl : k = nc := by omega
              obtain ⟨xs0, hO0⟩ := hS2.begin hi hncl hGl hGB hinj.out
              replace hO0 := hid_of hO0
              clear hS2 t1 t2
              go_wp2_with fail
              go_loopw [14] (fun kv wr3 => ∃ (q : Nat) (v : Value) (xs : List Value), kv = .int .i64 (q : Nat) ∧ q ≤ 20 ∧ OwAt lo B2 W7 wr3 g m k G i q v xs) (fun kv _ => 20 - (intOf kv).toNat)
              case atStart => exact ⟨0, _, _, rfl, Nat.zero_le _, hO0.out⟩
              case round =>
                clear hO0 y0
                obtain ⟨wr3, hwo⟩ : ∃ wr3 : World, wr3 = wr := ⟨_, rfl⟩
                subst hwo
                obtain ⟨q, v, xs, rfl, hq20, hO3⟩ := hrel
                by_cases hq : q < 20
                · obtain ⟨f, t1, t0, -⟩ := hO3.top
                  have y0 := t1.cell hi
                  rw [t0] at y0
                  obtain ⟨va, vc, hvv, -, -, -⟩ := ownsRow_form hO3.own
                  subst hvv
                  have hl3 : lo ≤ wr3.heap.size := Nat.le_trans hlg (Nat.le_of_lt t1.lt)
                  have hB27 : B2 ≤ W7.heap.size := Nat.le_trans hB24s.out hB47.out.size
                  have hfin := hid_of (fun w0 g1 c1 w2 h1 r1 r2 r3 => hO3.more (u := .int .i64 (-2)) (w0 := w0) (w2 := w2) (g1 := g1) (c1 := c1) hlg hgB (fun p hp => ⟨(hGs.out p hp).2.1, (hGs.out p hp).2.2⟩) hB27 hl3 h1 r1 r2 r3)
                  have hrow := hid_of hO3.own
                  have hone : Hid (∀ v ∈ [Value.int .i64 (-2)], v.oneCell' = true) := fun v hv => by simp at hv; subst hv; rfl
                  replace hl3 := hid_of hl3
                  clear hO3 t1 t0
                  go_wp2_with (at_builtin; go_must (refine wpList_append_lies _ rfl _ _ 39 rfl lo 3 ri _ 1 8 iint_u hri hri1 hri2 hri3 rfl (by decide) _ (k + q) xs rfl (hrow.out.alloc _) _ 1 1 [.int .i64 (-2)] rfl rfl (World.news_of_block (heap_alloc_new wr3 _)) hone.out (by decide) (by unfold maxLen; omega) (by omega) (Nat.le_trans hl3.out (Nat.le_of_lt (World.size_alloc_lt wr3 _))) _ rfl ?_); intro g1 c1 W8 r1 r2 r3 r4; obtain ⟨⟨u1, u2⟩, hO4⟩ := hfin.out _ g1 c1 W8 ((Below.refl _ wr3).alloc (Nat.le_refl _) _) r1 r2 r3; rw [y0] at u1; replace hO4 := hid_of hO4; clear r1 r2 r3 r4)
                  go_roundw
                  case rel => exact ⟨q + 1, _, _, by go_num, by omega, hO4.out⟩
                  case measure =>
                    simp only [intOf]
                    omega
                · obtain rfl : q = 20 := by omega
                  have hS9 := hid_of hO3.done
                  clear hO3
                  go_wp2_with fail
                  go_roundw
                  case rel => exact ⟨i + 1, by go_num, by omega, hS9.out.mid, hS9.out.bel, fun g' eg _ => by cases eg; exact hS9.out⟩
                  case measure =>
                    simp only [intOf]
                    omega
        · obtain rfl : i = m := by omega
          have hss := hid_of (hsb.out wo (fun b b1 b2 => (hmid b (by have := hB2s.out; omega) (Nat.lt_of_lt_of_le b2 hB47.out.size)).trans (hB47.out.block b b2)) (Nat.le_trans hB47.out.size hbel.size))
          have hB08 : Hid (Below w.heap.size w wo) := hB07.out.trans (by rw [hlo.out]; exact hbel)
          clear hSp hmid hbel
          go_wp2_with fail
          refine hss.out.mono ?_
          rintro e W8 ⟨rfl, hB8⟩
          have hlv := hid_of (live_any W8)
          have hB09 : Hid (Below w.heap.size w W8) := hB08.out.trans (hB8.mono hB08.out.size)
          clear hss hB8
          go_wp2_with fail
          refine hlv.out.mono ?_
          rintro e W9 ⟨rfl, hB9⟩
          go_wp2_with fail
          exact bodyPost_ret (v := .bool true) (by simp [results, Try.results4, go_sem]) rfl ⟨rfl, hB09.out.trans (hB9.mono hB09.out.size)⟩
    · go_wp2_with fail
      refine hown.out.mono ?_
      clear hown
      rintro e W1 ⟨hB1, g0, c, rfl, hO⟩
      obtain ⟨hE1, hc1, hc2, -, hg0⟩ := own_evs hO
      unfold maxLen at hc2
      have hs1 := hid_of (clocks_any (some ⟨g0, 0, none⟩) c evs clients W1 hE1 (by omega) (by omega) hwf)
      rw [hn.out] at hs1
      rw [hn.out]
      go_wp2_with fail
      refine hs1.out.mono ?_
      clear hs1
      rintro e W2 hP2
      obtain ⟨hB2, ga, ca, G, rfl, hr1, hr2, hr3, hr4⟩ := clocks_form (by omega) hP2
      rw [hck.out, hmm.out]
      rw [hmm.out] at hr1 hr3 hr4
      rw [hnn.out] at hr3 hr4
      have hs2 := hid_of (clocks_any (some ⟨g0, 0, none⟩) c evs clients W2 (hE1.keep hB2) (by omega) (by omega) hwf)
      rw [hn.out] at hs2
      go_wp2_with fail
      refine hs2.out.mono ?_
      clear hs2
      rintro e W3 hP3
      obtain ⟨hB3, ba, cb, H, rfl, hu1, hu2, hu3, -⟩ := clocks_form (by omega) hP3
      rw [hck.out, hmm.out]
      rw [hmm.out] at hu1 hu3
      rw [hnn.out] at hu3
      have hB13 : Below W1.heap.size W1 W3 := hB2.trans (hB3.mono hB2.size)
      have hB03 : Below w.heap.size w W3 := hB1.trans (hB13.mono hB1.size)
      have hs3 := hid_of (refclocks_any a cap evs clients W3 (hE.keep hB03) hcl.out hcm hn2)
      rw [hn.out] at hs3
      go_wp2_with fail
      refine hs3.out.mono ?_
      clear hs3
      rintro e W4 hP4
      obtain ⟨hB4, sa, sc, K, rfl, hq1, hq2, hq3⟩ := refclocks_form hP4
      rw [hck.out, hmm.out]
      rw [hmm.out] at hq1 hq3
      rw [hnn.out] at hq3
      have hB24 : Below W2.heap.size W2 W4 := hB3.trans (hB4.mono hB3.size)
      have hB14 : Below W1.heap.size W1 W4 := hB2.trans (hB24.mono hB2.size)
      have hB04 : Below w.heap.size w W4 := hB1.trans (hB14.mono hB1.size)
      have hr3' := hr3.under hB24
      have hu3' := hu3.under hB4
      have hsa := hid_of (tell_same hr3' hq3 hr1 hq1 ⟨hr2, hq2⟩ hnc)
      have hsb := hid_of (fun (W : World) (hW : ∀ b, W2.heap.size ≤ b → b < W4.heap.size → W.heap[b]? = W4.heap[b]?) (hS : W4.heap.size ≤ W.heap.size) => tell_same (hu3'.keep hS (fun b b1 b2 => hW b b1 b2)) (hq3.keep hS (fun b b1 b2 => hW b (Nat.le_trans hB3.size b1) b2)) hu1 hq1 ⟨hu2, hq2⟩ hnc)
      have hkp := hid_of (fun W (hW : Below W4.heap.size W4 W) => kept_any a cap g0 c _ evs W ((hE.keep hB04).keep hW) hcl.out hcm ((hE1.keep hB14).keep hW) hc1 hc2 (ownsRow_keep hO (fun b e => by cases e; exact (hW.block _ (Nat.lt_of_lt_of_le hg0 hB14.size)).trans (hB14.block _ hg0))))
      rw [hn.out] at hkp
      have hsp : Hid (0 < m → ∃ g, ga = some ⟨g, 0, none⟩ ∧ w.heap.size ≤ g ∧ g < W2.heap.size ∧ (∀ p, p < m → w.heap.size ≤ G p ∧ G p < W2.heap.size ∧ G p ≠ g) ∧ (∀ i j, i < m → j < m → G i = G j → i = j) ∧ ∀ W, Below W4.heap.size W4 W → SpAt w.heap.size W2.heap.size W W g m nc G 0) := fun h => by
        obtain ⟨g, e1, hc⟩ := hr4 h
        refine ⟨g, e1, Nat.le_trans hB1.size hc.lo, hc.row.lt, fun p hp => ⟨Nat.le_trans hB1.size (hc.each p hp).1, (hc.each p hp).2.2.lt, (hc.each p hp).2.1⟩, hc.inj, fun W hW => ?_⟩
        have hk : Below W2.heap.size W2 W := hB24.trans (hW.mono hB24.size)
        exact ⟨⟨_, hc.row.of_block (hk.block _ hc.row.lt), fun q _ _ => rfl⟩, fun q _ hq => ⟨_, (hc.each q hq).2.2.of_block (hk.block _ (hc.each q hq).2.2.lt)⟩, fun b _ _ => rfl, Below.refl _ W⟩
      have hB24s : Hid (W2.heap.size ≤ W4.heap.size) := hB24.size
      replace hB04 := hid_of hB04
      clear hP2 hP3 hP4 hr3 hr4 hu3 hq3 hB1 hB2 hB3 hB4 hB13 hB03 hB24 hB14 hr3' hu3' hO hE1 hg0
      go_wp2_with fail
      refine (hnum.out ck W4).mono ?_
      rintro e Z ⟨rfl, hz⟩
      obtain rfl : W4 = Z := hz.symm
      clear hz
      go_wp2_with fail
      refine hsa.out.mono ?_
      rintro e W5 ⟨rfl, hB5⟩
      have hs5 := hid_of (hsb.out W5 (fun b _ b2 => hB5.block b b2) hB5.size)
      replace hB5 := hid_of hB5
      clear hsa
      go_wp2_with fail
      refine hs5.out.mono ?_
      rintro e W6 ⟨rfl, hB6⟩
      have hB46 : Below W4.heap.size W4 W6 := hB5.out.trans (hB6.mono hB5.out.size)
      have hk6 := hid_of (hkp.out W6 hB46)
      replace hB46 := hid_of hB46
      clear hs5 hkp hB5 hB6
      go_wp2_with fail
      refine hk6.out.mono ?_
      rintro e W7 ⟨rfl, hB7⟩
      have hB47 : Hid (Below W4.heap.size W4 W7) := hB46.out.trans (hB7.mono hB46.out.size)
      have hB07 : Hid (Below w.heap.size w W7) := hB04.out.trans (hB47.out.mono hB04.out.size)
      clear hk6 hB7 hB46 hB04
      obtain ⟨ri, hri, hri1, hri2, hri3⟩ := iint_info
      obtain ⟨lo, hlo⟩ : ∃ lo, Hid (w.heap.size = lo) := ⟨_, rfl⟩
      obtain ⟨B2, hB2s⟩ : ∃ B2, Hid (W2.heap.size = B2) := ⟨_, rfl⟩
      rw [hlo.out, hB2s.out] at hsp
      rw [hB2s.out] at hB24s
      go_wp2_with fail
      go_loopw [12] (fun iv wr => ∃ i : Nat, iv = .int .i64 (i : Nat) ∧ i ≤ m ∧ (∀ b, B2 ≤ b → b < W7.heap.size → wr.heap[b]? = W7.heap[b]?) ∧ Below lo W7 wr ∧ (∀ g, ga = some ⟨g, 0, none⟩ → 0 < m → SpAt lo B2 W7 wr g m nc G i)) (fun iv _ => m - (intOf iv).toNat)
      case atStart => exact ⟨0, rfl, Nat.zero_le _, fun b _ _ => rfl, Below.refl _ W7, fun g eg h0 => by obtain ⟨g', e1, -, -, -, -, h⟩ := hsp.out h0; rw [eg] at e1; cases e1; exact h W7 hB47.out⟩
      case round =>
        obtain ⟨wo, hwo⟩ : ∃ wo : World, wo = wr := ⟨_, rfl⟩
        subst hwo
        obtain ⟨i, rfl, him, hmid, hbel, hSp⟩ := hrel
        by_cases hi : i < m
        · obtain ⟨g, e1, hlg, hgB, hGs, hinj, -⟩ := hsp.out (by omega)
          subst e1
          have hS := hSp g rfl (by omega)
          have hncl : nc ≤ 16 := by rcases hnc with h | h <;> omega
          obtain ⟨hGl, hGB, hGg⟩ := hGs i hi
          replace hS := hid_of hS
          replace hGs := hid_of hGs
          replace hinj := hid_of hinj
          clear hSp hmid hbel
          go_wp2_with fail
          go_loopw [13] (fun kv wr2 => ∃ k : Nat, kv = .int .i64 (k : Nat) ∧ k ≤ nc ∧ SpAt lo B2 W7 wr2 g m nc G i) (fun kv _ => nc - (intOf kv).toNat)
          case atStart => exact ⟨0, rfl, Nat.zero_le _, hS.out⟩
          case round =>
            clear hS
            obtain ⟨wr2, hwo⟩ : ∃ wr2 : World, wr2 = wr := ⟨_, rfl⟩
            subst hwo
            obtain ⟨k, rfl, hkn, hS2⟩ := hrel
            obtain ⟨f, t1, t2⟩ := hS2.top
            have y0 := t1.cell hi
            rw [t2 i (Nat.le_refl _) hi] at y0
            by_cases hk : k < nc
            · obtain ⟨f', rr⟩ := hS2.rows i (Nat.le_refl _) hi
              have y1 := rr.cell hk
              have z1 := rr.frozen k
              have hS3 := hid_of (hS2.mark (k := k) hGl hGB hGg (.int .i64 (-1)))
              clear hS2 t1 t2 rr
              go_wp2_with fail
              go_roundw
              case rel => exact ⟨k + 1, by go_num, by omega, hS3.out⟩
              case measure =>
                simp only [intOf]
                omega
            · obtain rfl : k = nc := by omega
              obtain ⟨xs0, hO0⟩ := hS2.begin hi hncl hGl hGB hinj.out
              replace hO0 := hid_of hO0
              clear hS2 t1 t2
              go_wp2_with fail
              go_loopw [14] (fun kv wr3 => ∃ (q : Nat) (v : Value) (xs : List Value), kv = .int .i64 (q : Nat) ∧ q ≤ 20 ∧ OwAt lo B2 W7 wr3 g m k G i q v xs) (fun kv _ => 20 - (intOf kv).toNat)
              case atStart => exact ⟨0, _, _, rfl, Nat.zero_le _, hO0.out⟩
              case round =>
                clear hO0 y0
                obtain ⟨wr3, hwo⟩ : ∃ wr3 : World, wr3 = wr := ⟨_, rfl⟩
                subst hwo
                obtain ⟨q, v, xs, rfl, hq20, hO3⟩ := hrel
                by_cases hq : q < 20
                · obtain ⟨f, t1, t0, -⟩ := hO3.top
                  have y0 := t1.cell hi
                  rw [t0] at y0
                  obtain ⟨va, vc, hvv, -, -, -⟩ := ownsRow_form hO3.own
                  subst hvv
                  have hl3 : lo ≤ wr3.heap.size := Nat.le_trans hlg (Nat.le_of_lt t1.lt)
                  have hB27 : B2 ≤ W7.heap.size := Nat.le_trans hB24s.out hB47.out.size
                  have hfin := hid_of (fun w0 g1 c1 w2 h1 r1 r2 r3 => hO3.more (u := .int .i64 (-2)) (w0 := w0) (w2 := w2) (g1 := g1) (c1 := c1) hlg hgB (fun p hp => ⟨(hGs.out p hp).2.1, (hGs.out p hp).2.2⟩) hB27 hl3 h1 r1 r2 r3)
                  have hrow := hid_of hO3.own
                  have hone : Hid (∀ v ∈ [Value.int .i64 (-2)], v.oneCell' = true) := fun v hv => by simp at hv; subst hv; rfl
                  replace hl3 := hid_of hl3
                  clear hO3 t1 t0
                  go_wp2_with (at_builtin; go_must (refine wpList_append_lies _ rfl _ _ 39 rfl lo 3 ri _ 1 8 iint_u hri hri1 hri2 hri3 rfl (by decide) _ (k + q) xs rfl (hrow.out.alloc _) _ 1 1 [.int .i64 (-2)] rfl rfl (World.news_of_block (heap_alloc_new wr3 _)) hone.out (by decide) (by unfold maxLen; omega) (by omega) (Nat.le_trans hl3.out (Nat.le_of_lt (World.size_alloc_lt wr3 _))) _ rfl ?_); intro g1 c1 W8 r1 r2 r3 r4; obtain ⟨⟨u1, u2⟩, hO4⟩ := hfin.out _ g1 c1 W8 ((Below.refl _ wr3).alloc (Nat.le_refl _) _) r1 r2 r3; rw [y0] at u1; replace hO4 := hid_of hO4; clear r1 r2 r3 r4)
                  go_roundw
                  case rel => exact ⟨q + 1, _, _, by go_num, by omega, hO4.out⟩
                  case measure =>
                    simp only [intOf]
                    omega
                · obtain rfl : q = 20 := by omega
                  have hS9 := hid_of hO3.done
                  clear hO3
                  go_wp2_with fail
                  go_roundw
                  case rel => exact ⟨i + 1, by go_num, by omega, hS9.out.mid, hS9.out.bel, fun g' eg _ => by cases eg; exact hS9.out⟩
                  case measure =>
                    simp only [intOf]
                    omega
        · obtain rfl : i = m := by omega
          have hss := hid_of (hsb.out wo (fun b b1 b2 => (hmid b (by have := hB2s.out; omega) (Nat.lt_of_lt_of_le b2 hB47.out.size)).trans (hB47.out.block b b2)) (Nat.le_trans hB47.out.size hbel.size))
          have hB08 : Hid (Below w.heap.size w wo) := hB07.out.trans (by rw [hlo.out]; exact hbel)
          clear hSp hmid hbel
          go_wp2_with fail
          refine hss.out.mono ?_
          rintro e W8 ⟨rfl, hB8⟩
          have hlv := hid_of (live_any W8)
          have hB09 : Hid (Below w.heap.size w W8) := hB08.out.trans (hB8.mono hB08.out.size)
          clear hss hB8
          go_wp2_with fail
          refine hlv.out.mono ?_
          rintro e W9 ⟨rfl, hB9⟩
          go_wp2_with fail
          exact bodyPost_ret (v := .bool true) (by simp [results, Try.results4, go_sem]) rfl ⟨rfl, hB09.out.trans (hB9.mono hB09.out.size)⟩
set_option maxRecDepth 100000 in
theorem tells_lifted (os : Os) (started : os.Started) (H : Type) (enc : TypeId × Value → H) :
    ReturnsInHanded {} Try.checked os 4 .any (Rows.clocksTellsSpec.pre6 enc Try.prog Try.f4 Rows.clocksTellsRow.domain false) (Rows.clocksTellsSpec.post enc Try.prog Try.f4 false true false false) := by
  refine returnsInHanded_of_change_sized (C := Try.checked) own_knob started (by kernel_rfl) Try.func4
    (ChangeSpec.witness6 (enc := enc) (C := Try.checked) false ⟨#[], #[.slice none 0 0, .int .i64 0], []⟩ 8 (by kernel_rfl) (by kernel_rfl) (by kernel_rfl) (by kernel_rfl)) ?_
  intro W base args ds gs before hval0 hW hcnd hsz0 _
  have hval : ∀ (j : Nat) t v, Try.f4.params[j]? = some t → args[j]? = some v → Value.okWide Try.prog W .any base t v := hval0
  have hsz : (DataW.weightsEach Try.prog (Try.f4.params.toList ++ Rows.clocksTellsSpec.plain.varTypes Try.prog) (ds ++ gs)).all (· ≤ reachBytes) = true := hsz0
  have hW' := hW
  obtain ⟨p, q, hA0, hV, rfl, hfz, hnd⟩ := hW
  have hA : DataW.TrodAll enc Try.prog W 0 (fun _ => true) true Try.f4.params.toList args.toList ds p := hA0
  rw [Try.params4] at hA hval hsz
  obtain ⟨v0, v1, d0, d1, p0, p1, rfl, rfl, rfl, h0, h1⟩ := trodAll_two hA
  obtain ⟨rfl, rfl⟩ := trodVars_none hV
  clear hA0 hval0
  obtain ⟨a, len, cap, rfl⟩ := okWide_slice Try.underlying22 (hval 0 22 v0 rfl rfl)
  obtain ⟨i1, rfl, rfl, rfl, hw1⟩ := open_int Try.underlying3 (hval 1 3 v1 rfl rfl) h1
  have hbig := evs_sized h0 hsz (j := 0) rfl rfl
  obtain ⟨evs, rfl, hE, hl1, hl2, hwf⟩ := arg_evs h0
  simp only [List.append_nil] at hW'
  have hlt : ∀ x ∈ p0, x.block < W.heap.size := fun x hx => by simpa using hW'.lt x (by simpa using hx)
  refine (tells_true a cap evs i1 W hE hl1 (by unfold maxLen at hl2; omega) (fun e he => (hwf e he).2.2) hbig).mono fun e W' ⟨he, hg⟩ => ?_
  subst he
  exact ⟨_, rfl, _, _, _, [], _, [], hW', trodAll_mk1 (shut_bool Try.underlying4 _), trodAll_mk2 (Below.trod laid_out (by kernel_rfl) (of_decide_eq_true (by kernel_rfl)) h0 hg hlt) (shut_int Try.underlying3 hw1), rfl, hg.frame _, fun h => by cases h⟩
theorem tells_holds : Rows.ClocksTellsSaid :=
  OpenClaim.holds_of_wide 4 Try.f4 rfl rfl rfl rfl rfl rfl rfl ⟨rfl, rfl, rfl, rfl, rfl⟩ rfl rfl rfl rfl rfl (by kernel_rfl) Try.func4 (by kernel_rfl)
    (of_decide_eq_true (by kernel_rfl)) (by unfold Func.isWrapper; first | (rw [if_pos (by decide +kernel)]; kernel_rfl) | (rw [if_neg (by decide +kernel)]; exact ⟨rfl, rfl⟩))
    (fun os started H enc _ => tells_lifted os started H enc)
#print axioms tells_holds
end Go.Proofs.Ytdgdfpgekccibab
