import Derived.Test.YtpdcinicnekeoaaMF
/-! watch: WatchMerges. -/
namespace Go.Proofs.Ytpdcinicnekeoaa
open Go Go.RowKit Go.Watch
theorem MS.next {w0 w W7 : World} {ls : List (List Chg)} {i : Nat} {ga : Option Addr} {gc : Nat} {cps : List Value} {l : List Chg} {g of c : Nat} (h : MS w0 w ls i ga gc cps) (hl : ls[i]? = some l) (hb : Below w.heap.size w W7) (hg : Rw W7 w.heap.size 4 (some ⟨g, of, none⟩) l.length c (flatC l)) :
    ∃ W8, Hid (W7.alloc (.cells #[.slice (some ⟨g, of, none⟩) l.length c] 23) = W8) ∧ Hid (Src Try.prog 1 43 (.slice (some ⟨W7.heap.size, 0, none⟩) 1 1) 1 [.slice (some ⟨g, of, none⟩) l.length c] W8) ∧ Hid (Rw W8 w0.heap.size 1 ga i gc cps) ∧ Hid (w0.heap.size ≤ W8.heap.size) ∧ Hid (∀ g2 o2 c2 W4, Appd W8 w0.heap.size 1 ga i 1 gc (cps ++ [.slice (some ⟨g, of, none⟩) l.length c]) g2 o2 c2 W4 → MS w0 W4 ls (i + 1) (some ⟨g2, o2, none⟩) c2 (cps ++ [.slice (some ⟨g, of, none⟩) l.length c])) := by
  have hb3 : Below W7.heap.size W7 (W7.alloc (.cells #[.slice (some ⟨g, of, none⟩) l.length c] 23)) := (Below.refl _ W7).alloc (Nat.le_refl _) _
  refine ⟨_, rfl, ?_, h.row.below (hb.trans (hb3.mono hb.size)), ?_, fun g2 o2 c2 W4 hA => h.step hl hb hg hb3 hA⟩
  · exact Src.of_block (size := 1) (cs := #[.slice (some ⟨g, of, none⟩) l.length c]) Try.underlying43 (heap_alloc_new W7 _) 1 1 rfl (fun u hu => by simp at hu; subst hu; rfl)
  · show _ ≤ _
    have := h.bel.size
    have := hb.size
    have := hb3.size
    omega
set_option maxHeartbeats 16000000 in
set_option maxRecDepth 100000 in
theorem merges_true {a : Option Addr} {ls : List (List Chg)} {cap : Nat} {w : World} (hR : RowsAt w a ls) (hlen : ls.length * 24 ≤ 140737488351232) (hsm : ∀ (j : Nat) l, ls[j]? = some l → l.length * 48 ≤ 140737488351232) :
    Calls Try.prog 5 #[.slice a ls.length cap] w fun e w' => e = .returned (.bool true) ∧ Below w.heap.size w w' := by
  obtain ⟨ri, hri, hri1, hri2, hri3⟩ := row_info
  obtain ⟨L, hLe⟩ : ∃ L, Hid (ls.length = L) := ⟨_, rfl⟩
  rw [hLe.out] at hlen ⊢
  obtain ⟨C, hC⟩ : ∃ C : Nat, Hid (C ≤ 4398046511104) ∧ Hid (∀ (j : Nat) l, ls[j]? = some l → l.length ≤ C) := ⟨4398046511104, Nat.le_refl _, fun j c hj => by have := hsm j c hj; omega⟩
  obtain ⟨hC1, hC2⟩ := hC
  replace hR := hid_of hR
  replace hsm := hid_of hsm
  go_enter Try.func5, Try.ntmps5
  go_wp2_with fail
  go_loopw [3, 4, 5, 6] (fun nv rv gv iv wr => ∃ (i : Nat) (x : Int) (r : Bool) (ga : Option Addr) (gc : Nat) (cps : List Value), iv = .int .i64 (i : Nat) ∧ nv = .int .i64 x ∧ rv = .bool r ∧ gv = .slice ga i gc ∧ i ≤ L ∧ Hid (i ≤ 100 → x = (totL (ls.take i) : Nat) ∧ totL (ls.take i) ≤ i * C) ∧ Hid (r = true → ∀ (j : Nat) l, j < i → ls[j]? = some l → Rise l) ∧ Hid (MS w wr ls i ga gc cps)) (fun _ _ _ iv _ => L - (intOf iv).toNat)
  case atStart => exact ⟨0, 0, true, none, 0, [], rfl, rfl, rfl, rfl, Nat.zero_le _, fun _ => ⟨rfl, by rw [Nat.zero_mul]; exact Nat.le_refl _⟩, fun _ j l hj => by omega, ⟨Below.refl _ _, Rw.nil _ _ _ _, fun j l hj => by omega, fun b hb => by obtain ⟨o2, s2, e2⟩ := hb; cases e2⟩⟩
  case round =>
    obtain ⟨i, x, r, ga, gc, cps, rfl, rfl, rfl, rfl, hi, hI, hri', hV⟩ := hrel
    by_cases hlt : i < L
    · obtain ⟨li, hli⟩ : ∃ li, Hid (ls[i]? = some li) := ⟨_, List.getElem?_eq_getElem (by rw [hLe.out]; exact hlt)⟩
      obtain ⟨b, o, xa, xc, rfl, g1, gx, -⟩ := hR.out i li hli.out
      have c1 := stay hV.out.bel g1
      have hx1 := hid_of (gx.below hV.out.bel)
      have ht := hid_of (totL_take hli.out)
      have hcl := hC2.out i li hli.out
      have hs1 := hid_of (hsm.out i li hli.out)
      obtain ⟨m, hm⟩ : ∃ m, Hid (li.length = m) := ⟨_, rfl⟩
      rw [hm.out] at c1 hcl ht hs1
      obtain ⟨x2, hx2⟩ : ∃ x2, Hid (wrap64 (x + (m : Int)) = x2) := ⟨_, rfl⟩
      have hmB : m ≤ 4398046511104 := by have := hs1.out; omega
      have hI2 : Hid (i + 1 ≤ 100 → x2 = (totL (ls.take (i + 1)) : Nat) ∧ totL (ls.take (i + 1)) ≤ (i + 1) * C) := fun h4 => by
        obtain ⟨hx, hb⟩ := hI.out (by omega)
        have hiC : i * C ≤ 100 * C := Nat.mul_le_mul_right C (by omega)
        have := hC1.out
        rw [ht.out, Nat.succ_mul, ← hx2.out, show wrap64 (x + (m : Int)) = x + (m : Int) from by unfold wrap64; omega]
        exact ⟨by omega, by omega⟩
      have hi1 : (0 : Int) ≤ (i : Int) := by omega
      have hi2 : (i : Int) < (L : Int) := by omega
      have hz : Hid (i + 1 ≤ maxLen ∧ (i + 1) * 24 ≤ 140737488355328) := by unfold maxLen; exact ⟨by omega, by omega⟩
      have hnx := hid_of (fun W7 g of c hb hg => hV.out.next (W7 := W7) (g := g) (of := of) (c := c) hli.out hb hg)
      have hBe : Below wr.heap.size wr (wr.alloc (.cells #[] 30)) := (Below.refl _ wr).alloc (Nat.le_refl _) _
      have c1e := stay hBe c1
      have hl48 : Hid (li.length * 48 ≤ 140737488355328) := by show _ ≤ _; rw [hm.out]; have := hs1.out; omega
      have hgw := hid_of (fun W (hb : Below w.heap.size w W) => stay hb g1)
      have hgx := hid_of (fun W (hb : Below w.heap.size w W) => gx.below hb)
      rw [hm.out] at hgw hnx
      clear hI ht hcl g1 gx hBe
      go_upto_region 9 with (first
        | rw [hx2.out]
        | rw [hW8.out]
        | (at_builtin; refine wpList_append_cp wr rfl _ _ rfl _ xa xc li hx1.out hl48.out rfl (by rw [hm.out]; rfl) ?_; intro g7 o7 c7 W7 hB7 hg7 hR7; rw [hm.out] at hR7; obtain ⟨W8, hW8, hsrc, x0, x6, hst⟩ := hnx.out W7 g7 o7 c7 hB7 hR7; rw [hm.out]; clear hB7 hg7 hR7 hx1 hl48 c1 c1e hnx)
        | (at_builtin; go_must (refine wpList_append_rw W8 rfl _ _ 43 rfl 23 ri _ 1 24 Try.underlying43 hri hri1 hri2 hri3 rfl w.heap.size ga i gc cps rfl x0.out.len x0.out.le x0.out.mx x0.out.rd _ rfl 1 _ hsrc.out (fun _ => x0.out) (by decide) hz.out.1 hz.out.2 x6.out ?_); intro g2 o2 c2 W9 hA; have hV9 := hid_of (hst.out g2 o2 c2 W9 hA); clear hA hsrc hst x0))
      clear hV hW8
      go_wp2_with fail
      go_loopw [4, 7] (fun rv kv wq => ∃ (k : Nat) (r2 : Bool), kv = .int .i64 (k : Nat) ∧ rv = .bool r2 ∧ 1 ≤ k ∧ (k ≤ m ∨ k = 1) ∧ Hid (r2 = true → r = true ∧ RiseTo li k) ∧ Hid (MS w wq ls (i + 1) (some ⟨g2, o2, none⟩) c2 (cps ++ [.slice (some ⟨g7, o7, none⟩) m c7]))) (fun _ kv _ => m - (intOf kv).toNat)
      case atStart => exact ⟨1, r, rfl, rfl, Nat.le_refl _, .inr rfl, fun h => ⟨h, fun j c d hj => by omega⟩, hV9⟩
      case round =>
        clear hV9
        obtain ⟨k, r2, rfl, rfl, hk1, hk2, hrr, hV⟩ := hrel
        have c1 := hgw.out _ hV.out.bel
        have hx1 := hgx.out _ hV.out.bel
        have hk0 : (0 : Int) ≤ (k : Int) := by omega
        by_cases hkm : k < m
        · obtain ⟨p, hp⟩ : ∃ p, Hid (k - 1 = p) := ⟨_, rfl⟩
          have hpk : p + 1 = k := by have := hp.out; omega
          obtain ⟨cp, hcp⟩ : ∃ c, Hid (li[p]? = some c) := ⟨_, List.getElem?_eq_getElem (by rw [hm.out]; omega)⟩
          obtain ⟨ck, hck⟩ : ∃ c, Hid (li[k]? = some c) := ⟨_, List.getElem?_eq_getElem (by rw [hm.out]; omega)⟩
          obtain ⟨xb, xo, rfl, -, hcc⟩ := hx1 p cp hcp.out
          have d0 := hcc.st
          obtain ⟨_, _, e, -, hcc2⟩ := hx1 k ck hck.out
          cases e
          have d1 := hcc2.st
          obtain ⟨sp, hsp⟩ : ∃ s, Hid (cp.st = s) := ⟨_, rfl⟩
          obtain ⟨sk, hsk⟩ : ∃ s, Hid (ck.st = s) := ⟨_, rfl⟩
          rw [hsp.out] at d0
          rw [hsk.out] at d1
          have hp5 : IntKind.i64.wrap ((k : Int) - 1) = (p : Int) := by rw [wrap_in (by omega) (by omega)]; omega
          have hk3 : (k : Int) < (m : Int) := by omega
          have hp3 : (0 : Int) ≤ (p : Int) := by omega
          have hp4 : (p : Int) < (m : Int) := by omega
          clear hcc hcc2 hx1
          cases r2 with
          | false =>
            go_upto_region 12 with fail
            go_quiet (fail)
            have hV2 := hid_of (hV.out.below (below_drewN (Below.refl _ wr) nq))
            clear c1 d0 d1
            go_wp2_with fail
            go_roundw
            case rel => exact ⟨k + 1, false, by go_num, rfl, by omega, .inl (by omega), fun h => (Bool.noConfusion h), hV2⟩
            case measure =>
              simp only [intOf]
              omega
          | true =>
            have hnn : Hid (decide (sp ≤ sk) = true → r = true ∧ RiseTo li (k + 1)) := fun hd => by
              obtain ⟨h1, h2⟩ := hrr.out rfl
              refine ⟨h1, ?_⟩
              rw [← hpk] at h2 hck ⊢
              exact h2.step hcp.out hck.out (by rw [hsp.out, hsk.out]; exact of_decide_eq_true hd)
            go_upto_region 12 with fail
            go_quiet (fail)
            have hV2 := hid_of (hV.out.below (below_drewN (Below.refl _ wr) nq))
            clear c1 d0 d1
            go_wp2_with fail
            go_roundw
            case rel => exact ⟨k + 1, _, by go_num, rfl, by omega, .inl (by omega), hnn, hV2⟩
            case measure =>
              simp only [intOf]
              omega
        · have hri2' : Hid (r2 = true → ∀ (j : Nat) l, j < i + 1 → ls[j]? = some l → Rise l) := fun h j l hj hl => by
            obtain ⟨h1, h2⟩ := hrr.out h
            by_cases e : j = i
            · subst e
              rw [hli.out] at hl
              cases hl
              exact RiseTo.done k (by rw [hm.out]; omega) h2
            · exact hri'.out h1 j l (by omega) hl
          have hk3 : ¬ (k : Int) < (m : Int) := by omega
          clear hx1
          go_wp2_with fail
          go_roundw
          case rel => exact ⟨i + 1, x2, r2, _, _, _, by go_num, by first | rfl | rw [hx2.out], rfl, rfl, by omega, hI2, hri2', hV⟩
          case measure =>
            simp only [intOf]
            omega
    · obtain rfl : i = L := by omega
      obtain ⟨Wm, hWm⟩ : ∃ Wm, Hid (wr = Wm) := ⟨_, rfl⟩
      rw [hWm.out] at hV ⊢
      have hbm := hid_of hV.out.bel
      by_cases h1 : 3000 < x
      · have hlv := hid_of (live_any Wm)
        clear hI hri' hV hC2
        go_wp2_with fail
        refine hlv.out.mono ?_
        rintro e W1 ⟨rfl, hb⟩
        have hfin : Hid (Below w.heap.size w W1) := hbm.out.trans (hb.mono hbm.out.size)
        clear hb hlv
        go_wp2_with fail
        go_ret
        exact ⟨rfl, hfin.out⟩
      by_cases h2 : 100 < (i : Int)
      · have hlv := hid_of (live_any Wm)
        clear hI hri' hV hC2
        go_wp2_with fail
        refine hlv.out.mono ?_
        rintro e W1 ⟨rfl, hb⟩
        have hfin : Hid (Below w.heap.size w W1) := hbm.out.trans (hb.mono hbm.out.size)
        clear hb hlv
        go_wp2_with fail
        go_ret
        exact ⟨rfl, hfin.out⟩
      obtain ⟨hx, -⟩ := hI.out (by omega)
      rw [List.take_of_length_le (by rw [hLe.out]; exact Nat.le_refl _)] at hx
      have hT3 : Hid (totL ls ≤ 3000) := by show _ ≤ _; omega
      obtain ⟨kn, hkn⟩ : ∃ kn, Hid ((kM ls).length = kn) := ⟨_, rfl⟩
      have hxk : x = (kn : Int) := by rw [hx, ← hkn.out, kM_len]
      subst hxk
      have hrows := hid_of (hV.out.rows hLe.out)
      have hRm := hid_of (hR.out.below hbm.out)
      have hrise : Hid (r = true → Rise (kM ls)) := fun h => kM_rise ls (fun l hl => by
        obtain ⟨j, hj⟩ := List.getElem?_of_mem hl
        exact hri'.out h j l (by have := (List.getElem?_eq_some_iff.1 hj).1; have := hLe.out; omega) hj)
      have hmg := hid_of (merge_any (cap := gc) hrows.out (by rw [hLe.out]; exact hV.out.row.le) (by have := hV.out.row.mx; unfold maxLen at this; omega) (by have := hT3.out; omega))
      rw [hLe.out] at hmg
      have hkb : (kn : Int) ≤ 3000 := by omega
      have hib : (i : Int) ≤ 100 := by omega
      clear hI hri' hV hC2 hx
      go_upto_region 15 with fail
      go_wp2_with fail
      refine hmg.out.mono ?_
      rintro e W1 ⟨hb1, la, lc, rfl, hR1⟩
      rw [hkn.out] at hR1 ⊢
      have hrm := hid_of (rmerge_any (cap := cap) (hRm.out.below hb1) (by rw [hLe.out]; omega) (by have := hT3.out; omega))
      rw [hLe.out] at hrm
      have hblk : Hid (0 < lc → ∀ b, blkOf la b → b < W1.heap.size) := fun h0 b hbk => by
        obtain ⟨b', o', e, -, h2, -⟩ := hR1.pt.resolve_left (by omega)
        obtain ⟨o3, s3, e3⟩ := hbk
        rw [e] at e3
        cases e3
        exact h2
      replace hR1 := hid_of hR1
      replace hb1 := hid_of hb1
      clear hmg
      go_wp2_with fail
      refine hrm.out.mono ?_
      rintro e W2 ⟨hb2, ka, kc, rfl, hR2⟩
      rw [hkn.out] at hR2 ⊢
      have hch := hid_of (changes_true (ca := lc) (cb := kc) ((hR1.out.below hb2).chgs) hR2.chgs (by rw [hkn.out]; omega))
      rw [hkn.out] at hch
      replace hb2 := hid_of hb2
      clear hrm hR2
      go_wp2_with fail
      refine hch.out.mono ?_
      rintro e W3 ⟨rfl, q3, hW3⟩
      have hlv := hid_of (live_any W3)
      have hb3 : Hid (Below W1.heap.size W1 W3) := by rw [hW3]; exact below_drewN hb2.out q3
      clear hch hb2 hW3
      go_wp2_with fail
      refine hlv.out.mono ?_
      rintro e W4 ⟨rfl, hb4⟩
      have hb14 : Hid (Below W1.heap.size W1 W4) := hb3.out.trans (hb4.mono hb3.out.size)
      clear hlv hb4 hb3
      have hnext : Hid (∀ W5, Below W1.heap.size W1 W5 → Spl Wm.heap.size W1.heap.size W5 W5 la kn lc ∧ ∀ W6, Spl Wm.heap.size W1.heap.size W5 W6 la kn lc → Below Wm.heap.size Wm W6) := fun W5 h5 => ⟨Spl.begin (hR1.out.below h5).rm hblk.out, fun W6 h6 => by
        have h7 : Below Wm.heap.size Wm W5 := hb1.out.trans (h5.mono hb1.out.size)
        exact h7.trans (h6.below h7.size)⟩
      cases r with
      | false =>
        go_wp2_with fail
        refine wp_loop_rounds 1 ?_
        rw [rounds_succ]
        obtain ⟨W5, hW5⟩ : ∃ W5, Hid (W4 = W5) := ⟨_, rfl⟩
        obtain ⟨hsp, hspb⟩ := hnext.out W4 hb14.out
        rw [hW5.out] at hsp hspb ⊢
        replace hsp := hid_of hsp
        replace hspb := hid_of hspb
        clear hnext hb14 hR1 hb1 hblk hrise
        go_wp2_with fail
        go_loopw [10] (fun iv wr => ∃ j : Nat, iv = .int .i64 (j : Nat) ∧ j ≤ kn ∧ Hid (Spl Wm.heap.size W1.heap.size W5 wr la kn lc)) (fun iv _ => kn - (intOf iv).toNat)
        case atStart => exact ⟨0, rfl, Nat.zero_le _, hsp⟩
        case round =>
          clear hsp
          obtain ⟨j, rfl, hjn, hS⟩ := hrel
          by_cases hj : j < kn
          · have hx0 : 0 < lc := by have := hS.out.row.le; omega
            obtain ⟨b, o, hae, -, -, hth⟩ := hS.out.row.pt.resolve_left (by omega)
            have hle := hS.out.row.le
            obtain ⟨v0, d0⟩ := Option.isSome_iff_exists.1 (hth (j * 4) (by omega)).1
            obtain ⟨v1, d1⟩ := Option.isSome_iff_exists.1 (hth (j * 4 + 1) (by omega)).1
            obtain ⟨v2, d2⟩ := Option.isSome_iff_exists.1 (hth (j * 4 + 2) (by omega)).1
            obtain ⟨v3, d3⟩ := Option.isSome_iff_exists.1 (hth (j * 4 + 3) (by omega)).1
            have f0 := (hth (j * 4) (by omega)).2
            have f1 := (hth (j * 4 + 1) (by omega)).2
            have f2 := (hth (j * 4 + 2) (by omega)).2
            have f3 := (hth (j * 4 + 3) (by omega)).2
            rw [← Nat.add_assoc] at d1 d2 d3 f1 f2 f3
            have hS2 := hid_of (hS.out.store hae hx0 (o + j * 4) [.int .i64 99, .string ⟨#[]⟩, .string ⟨#[]⟩, .int .i64 0])
            subst hae
            clear hth
            go_wp2_with fail
            go_roundw
            case rel => exact ⟨j + 1, by go_num, by omega, hS2⟩
            case measure =>
              simp only [intOf]
              omega
          · obtain rfl : j = kn := by omega
            have hB6 := hid_of (hspb.out _ hS.out)
            clear hS hspb
            go_wp2_with fail
            go_loopw [11] (fun jv wq => ∃ j : Nat, jv = .int .i64 (j : Nat) ∧ j ≤ i ∧ Hid (Below Wm.heap.size Wm wq)) (fun jv _ => i - (intOf jv).toNat)
            case atStart => exact ⟨0, rfl, Nat.zero_le _, hB6⟩
            case round =>
              clear hB6
              obtain ⟨t, rfl, htn, hB⟩ := hrel
              by_cases ht : t < i
              · obtain ⟨lt, hlt'⟩ : ∃ l, Hid (ls[t]? = some l) := ⟨_, List.getElem?_eq_getElem (by rw [hLe.out]; exact ht)⟩
                obtain ⟨b1, o1, xa, xc, rfl, c1, q1, -⟩ := (hrows.out.below hB.out) t lt hlt'.out
                obtain ⟨b2, o2, ya, yc, rfl, c2, q2, -⟩ := (hRm.out.below hB.out) t lt hlt'.out
                have hd : ∀ m, Below wr.heap.size wr (wr.drewN m) := fun m => below_drewN (Below.refl _ wr) m
                have hlm : lt.length ≤ 3000 := by
                  have : lt.length ≤ totL ls := by
                    unfold totL
                    exact le_sum (List.mem_map.2 ⟨lt, List.mem_of_getElem? hlt'.out, rfl⟩)
                  have := hT3.out
                  omega
                have k1 := hid_of (fun m => changes_true (ca := xc) (cb := yc) (q1.below (hd m)) (q2.below (hd m)) (by omega))
                obtain ⟨m, hm⟩ : ∃ m, Hid (lt.length = m) := ⟨_, rfl⟩
                rw [hm.out] at c1 c2 k1
                have ht1 : (0 : Int) ≤ (t : Int) := by omega
                have ht2 : (t : Int) < (i : Int) := by omega
                clear q1 q2 hd hlm
                go_wp2_with fail
                go_quiet ((go_at_call 16; exact Calls.quiet_of (k1.out _)))
                have hB2 : Hid (Below Wm.heap.size Wm (wr.drewN nq)) := below_drewN hB.out nq
                clear c1 c2 k1
                go_wp2_with fail
                go_roundw
                case rel => exact ⟨t + 1, by go_num, by omega, hB2⟩
                case measure =>
                  simp only [intOf]
                  omega
              · obtain rfl : t = i := by omega
                have hfin : Hid (Below w.heap.size w wr) := hbm.out.trans (hB.out.mono hbm.out.size)
                clear hB
                go_wp2_with fail
                go_ret
                exact ⟨rfl, hfin.out⟩
      | true =>
        have hR4 := hid_of (hR1.out.chgs)
        replace hrise := hid_of (hrise.out rfl)
        go_wp2_with fail
        go_loopw [9] (fun kv wq => ∃ k : Nat, kv = .int .i64 (k : Nat) ∧ 1 ≤ k ∧ (k ≤ kn ∨ k = 1) ∧ Hid (Below W1.heap.size W1 wq)) (fun kv _ => kn - (intOf kv).toNat)
        case atStart => exact ⟨1, rfl, Nat.le_refl _, .inr rfl, hb14⟩
        case round =>
          clear hb14
          obtain ⟨k, rfl, hk1, hk2, hB⟩ := hrel
          have hk0 : (0 : Int) ≤ (k : Int) := by omega
          by_cases hkm : k < kn
          · obtain ⟨p, hp⟩ : ∃ p, Hid (k - 1 = p) := ⟨_, rfl⟩
            have hpk : p + 1 = k := by have := hp.out; omega
            obtain ⟨cp, hcp⟩ : ∃ c, Hid ((kM ls)[p]? = some c) := ⟨_, List.getElem?_eq_getElem (by rw [hkn.out]; omega)⟩
            obtain ⟨ck, hck⟩ : ∃ c, Hid ((kM ls)[k]? = some c) := ⟨_, List.getElem?_eq_getElem (by rw [hkn.out]; omega)⟩
            have hx1 := hR4.out.below hB.out
            obtain ⟨xb, xo, rfl, -, hcc⟩ := hx1 p cp hcp.out
            have d0 := hcc.st
            obtain ⟨_, _, e, -, hcc2⟩ := hx1 k ck hck.out
            cases e
            have d1 := hcc2.st
            have hss := hrise.out p k cp ck hcp.out hck.out (by omega)
            obtain ⟨sp, hsp⟩ : ∃ s, Hid (cp.st = s) := ⟨_, rfl⟩
            obtain ⟨sk, hsk⟩ : ∃ s, Hid (ck.st = s) := ⟨_, rfl⟩
            rw [hsp.out] at d0
            rw [hsk.out] at d1
            rw [hsp.out, hsk.out] at hss
            have hss' : ¬ sk < sp := by omega
            have hp5 : IntKind.i64.wrap ((k : Int) - 1) = (p : Int) := by rw [wrap_in (by omega) (by omega)]; omega
            have hk3 : (k : Int) < (kn : Int) := by omega
            have hp3 : (0 : Int) ≤ (p : Int) := by omega
            have hp4 : (p : Int) < (kn : Int) := by omega
            clear hcc hcc2 hx1
            go_upto_region 21 with fail
            go_quiet (fail)
            have hB2 : Hid (Below W1.heap.size W1 (wr.drewN nq)) := below_drewN hB.out nq
            clear d0 d1
            go_wp2_with fail
            go_roundw
            case rel => exact ⟨k + 1, by go_num, by omega, .inl (by omega), hB2⟩
            case measure =>
              simp only [intOf]
              omega
          · have hk3 : ¬ (k : Int) < (kn : Int) := by omega
            obtain ⟨W5, hW5⟩ : ∃ W5, Hid (wr = W5) := ⟨_, rfl⟩
            obtain ⟨hsp, hspb⟩ := hnext.out wr hB.out
            rw [hW5.out] at hsp hspb ⊢
            replace hsp := hid_of hsp
            replace hspb := hid_of hspb
            clear hnext hB hR1 hb1 hblk hrise hR4
            go_wp2_with fail
            go_loopw [10] (fun iv wr => ∃ j : Nat, iv = .int .i64 (j : Nat) ∧ j ≤ kn ∧ Hid (Spl Wm.heap.size W1.heap.size W5 wr la kn lc)) (fun iv _ => kn - (intOf iv).toNat)
            case atStart => exact ⟨0, rfl, Nat.zero_le _, hsp⟩
            case round =>
              clear hsp
              obtain ⟨j, rfl, hjn, hS⟩ := hrel
              by_cases hj : j < kn
              · have hx0 : 0 < lc := by have := hS.out.row.le; omega
                obtain ⟨b, o, hae, -, -, hth⟩ := hS.out.row.pt.resolve_left (by omega)
                have hle := hS.out.row.le
                obtain ⟨v0, d0⟩ := Option.isSome_iff_exists.1 (hth (j * 4) (by omega)).1
                obtain ⟨v1, d1⟩ := Option.isSome_iff_exists.1 (hth (j * 4 + 1) (by omega)).1
                obtain ⟨v2, d2⟩ := Option.isSome_iff_exists.1 (hth (j * 4 + 2) (by omega)).1
                obtain ⟨v3, d3⟩ := Option.isSome_iff_exists.1 (hth (j * 4 + 3) (by omega)).1
                have f0 := (hth (j * 4) (by omega)).2
                have f1 := (hth (j * 4 + 1) (by omega)).2
                have f2 := (hth (j * 4 + 2) (by omega)).2
                have f3 := (hth (j * 4 + 3) (by omega)).2
                rw [← Nat.add_assoc] at d1 d2 d3 f1 f2 f3
                have hS2 := hid_of (hS.out.store hae hx0 (o + j * 4) [.int .i64 99, .string ⟨#[]⟩, .string ⟨#[]⟩, .int .i64 0])
                subst hae
                clear hth
                go_wp2_with fail
                go_roundw
                case rel => exact ⟨j + 1, by go_num, by omega, hS2⟩
                case measure =>
                  simp only [intOf]
                  omega
              · obtain rfl : j = kn := by omega
                have hB6 := hid_of (hspb.out _ hS.out)
                clear hS hspb
                go_wp2_with fail
                go_loopw [11] (fun jv wq => ∃ j : Nat, jv = .int .i64 (j : Nat) ∧ j ≤ i ∧ Hid (Below Wm.heap.size Wm wq)) (fun jv _ => i - (intOf jv).toNat)
                case atStart => exact ⟨0, rfl, Nat.zero_le _, hB6⟩
                case round =>
                  clear hB6
                  obtain ⟨t, rfl, htn, hB⟩ := hrel
                  by_cases ht : t < i
                  · obtain ⟨lt, hlt'⟩ : ∃ l, Hid (ls[t]? = some l) := ⟨_, List.getElem?_eq_getElem (by rw [hLe.out]; exact ht)⟩
                    obtain ⟨b1, o1, xa, xc, rfl, c1, q1, -⟩ := (hrows.out.below hB.out) t lt hlt'.out
                    obtain ⟨b2, o2, ya, yc, rfl, c2, q2, -⟩ := (hRm.out.below hB.out) t lt hlt'.out
                    have hd : ∀ m, Below wr.heap.size wr (wr.drewN m) := fun m => below_drewN (Below.refl _ wr) m
                    have hlm : lt.length ≤ 3000 := by
                      have : lt.length ≤ totL ls := by
                        unfold totL
                        exact le_sum (List.mem_map.2 ⟨lt, List.mem_of_getElem? hlt'.out, rfl⟩)
                      have := hT3.out
                      omega
                    have k1 := hid_of (fun m => changes_true (ca := xc) (cb := yc) (q1.below (hd m)) (q2.below (hd m)) (by omega))
                    obtain ⟨m, hm⟩ : ∃ m, Hid (lt.length = m) := ⟨_, rfl⟩
                    rw [hm.out] at c1 c2 k1
                    have ht1 : (0 : Int) ≤ (t : Int) := by omega
                    have ht2 : (t : Int) < (i : Int) := by omega
                    clear q1 q2 hd hlm
                    go_wp2_with fail
                    go_quiet ((go_at_call 16; exact Calls.quiet_of (k1.out _)))
                    have hB2 : Hid (Below Wm.heap.size Wm (wr.drewN nq)) := below_drewN hB.out nq
                    clear c1 c2 k1
                    go_wp2_with fail
                    go_roundw
                    case rel => exact ⟨t + 1, by go_num, by omega, hB2⟩
                    case measure =>
                      simp only [intOf]
                      omega
                  · obtain rfl : t = i := by omega
                    have hfin : Hid (Below w.heap.size w wr) := hbm.out.trans (hB.out.mono hbm.out.size)
                    clear hB
                    go_wp2_with fail
                    go_ret
                    exact ⟨rfl, hfin.out⟩
end Go.Proofs.Ytpdcinicnekeoaa
