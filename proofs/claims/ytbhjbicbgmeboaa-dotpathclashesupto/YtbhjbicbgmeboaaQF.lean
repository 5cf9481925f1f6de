import Derived.Test.YtbhjbicbgmeboaaQE
/-! DotpathClashes. -/
namespace Go.Proofs.Ytbhjbicbgmeboaa
open Go Go.RowKit

theorem ownsRow_lo {w : World} {lo lo' : Nat} {e : TypeId} {size : Nat} {v : Value} {n : Nat} {xs : List Value} (h : w.ownsRow lo e size v n xs) (hl : lo' ≤ lo) : w.ownsRow lo' e size v n xs := by
  refine ⟨h.1, ?_⟩
  rcases h.2 with h | ⟨g, cap, cur, h1, h2, h3⟩
  · exact .inl h
  · exact .inr ⟨g, cap, cur, h1, Nat.le_trans hl h2, h3⟩
/-- The paths that are handed on. -/
def GivenAt (W w : World) (v : Value) (ls : List Pth) (us : List Value) : Prop :=
  us.length = ls.length ∧ w.ownsRow W.heap.size 22 1 v ls.length us ∧ Below W.heap.size W w ∧ ∀ (j : Nat) l u, ls[j]? = some l → us[j]? = some u → Owned W l u w
theorem GivenAt.keep {W w w' : World} {v : Value} {ls : List Pth} {us : List Value} (h : GivenAt W w v ls us) (hb : Below w.heap.size w w') : GivenAt W w' v ls us := by
  obtain ⟨h1, h2, h3, h4⟩ := h
  exact ⟨h1, ownsRow_below h2 hb, h3.trans (hb.mono h3.size), fun j l u a b => (h4 j l u a b).keep hb⟩
theorem GivenAt.drewN {W w : World} {v : Value} {ls : List Pth} {us : List Value} (h : GivenAt W w v ls us) (k : Nat) : GivenAt W (w.drewN k) v ls us := by
  obtain ⟨h1, h2, h3, h4⟩ := h
  exact ⟨h1, h2, below_drewN h3 k, h4⟩
theorem Owned.block {W w : World} {l : Pth} {u : Value} (h : Owned W l u w) : ∃ g cap cur, u = .slice (some ⟨g, 0, none⟩) l.length cap ∧ w.heap[g]? = some (.cells cur 9 (0, 0)) := by
  obtain ⟨g, cap, rfl, _, h2⟩ := h
  rcases h2 with ⟨hv, _⟩ | ⟨g', cap', cur, hv, hg, hh, _⟩
  · cases hv
  · cases hv; exact ⟨g, cap, cur, rfl, hh⟩
theorem GivenAt.slice {W w : World} {v : Value} {ls : List Pth} {us : List Value} (h : GivenAt W w v ls us) : ∃ a c, v = .slice a ls.length c ∧ ls.length ≤ c ∧ (ls ≠ [] → ∃ g, a = some ⟨g, 0, none⟩) := by
  obtain ⟨h1, h2, h3, h4⟩ := h
  rcases h2.2 with ⟨hv, h0⟩ | ⟨g', cap', cur, hv, hg, hh, hc, _⟩
  · exact ⟨none, 0, by rw [hv, h0], by omega, fun h => absurd (List.eq_nil_of_length_eq_zero h0) h⟩
  · exact ⟨_, _, hv, hc, fun _ => ⟨g', rfl⟩⟩
/-- One of them. -/
theorem GivenAt.at {W w : World} {a : Option Addr} {c n : Nat} {ls : List Pth} {us : List Value} (h : GivenAt W w (.slice a n c) ls us) {q : Nat} (hq : q < ls.length) : ∃ g gq cq, a = some ⟨g, 0, none⟩ ∧ w.cell? ⟨g, q, none⟩ = some (.slice (some ⟨gq, 0, none⟩) (ls.getD q []).length cq) ∧ Owned W (ls.getD q []) (.slice (some ⟨gq, 0, none⟩) (ls.getD q []).length cq) w ∧ g < w.heap.size := by
  obtain ⟨h1, h2, h3, h4⟩ := h
  have e : ls.getD q [] = ls[q] := by simp [List.getD, List.getElem?_eq_getElem hq]
  rw [e]
  have hu : us[q]? = some us[q] := List.getElem?_eq_getElem (by omega)
  have ho := h4 q _ _ (List.getElem?_eq_getElem hq) hu
  obtain ⟨gq, cq, _, e2, _⟩ := ho.block
  rw [e2] at hu ho
  rcases id h2.2 with ⟨hv, h0⟩ | ⟨g', cap', cur, hv, hg, hh, hc, _⟩
  · omega
  · cases hv
    exact ⟨g', gq, cq, rfl, ownsRow_cell h2 hu, ho, (Array.getElem?_eq_some_iff.1 hh).1⟩
theorem GivenAt.readsL {W w : World} {a : Option Addr} {c : Nat} {ls : List Pth} {us : List Value} (h : GivenAt W w (.slice a ls.length c) ls us) : ReadsL w (.slice a ls.length c) ls := by
  obtain ⟨a', c', e, hc, _⟩ := h.slice
  cases e
  refine ⟨a, c, rfl, hc, fun j l hj => ?_⟩
  have hq : j < ls.length := (List.getElem?_eq_some_iff.1 hj).1
  obtain ⟨g, gq, cq, e, h1, h2, h3⟩ := h.at hq
  have el : ls.getD j [] = l := by simp [List.getD, hj]
  rw [el] at h1 h2
  exact ⟨g, 0, _, cq, e, h3, by simpa using h1, h2.reads⟩
theorem ReadsL.keep {w w' : World} {v : Value} {ls : List Pth} (h : ReadsL w v ls) (hb : Below w.heap.size w w') : ReadsL w' v ls := by
  obtain ⟨a, c, rfl, hc, h⟩ := h
  refine ⟨a, c, rfl, hc, fun j l hj => ?_⟩
  obtain ⟨b, o, a', c', e, h1, h2, h3⟩ := h j l hj
  exact ⟨b, o, a', c', e, Nat.lt_of_lt_of_le h1 hb.size, (hb.cell (p := ⟨b, o + j, none⟩) h1).trans h2, h3.keep hb⟩
/-- One path more. -/
theorem GivenAt.snoc {W wr w1 w4 : World} {v u : Value} {ls : List Pth} {us : List Value} {l : Pth} {g c4 : Nat} {o : Obj} (h : GivenAt W wr v ls us) (hO : Owned wr l u w1) (hb : Below wr.heap.size wr w1)
    (hown : w4.ownsRow W.heap.size 22 1 (.slice (some ⟨g, 0, none⟩) (ls.length + 1) c4) (ls.length + 1) (us ++ [u])) (hgrow : (w1.alloc o).grownBy w4 v.ownBlock) : GivenAt W w4 (.slice (some ⟨g, 0, none⟩) (ls.length + 1) c4) (ls ++ [l]) (us ++ [u]) := by
  obtain ⟨h1, h2, h3, h4⟩ := h.keep hb
  have hO' : Owned W l u w1 := by
    obtain ⟨g, cap, e, r⟩ := hO
    exact ⟨g, cap, e, ownsRow_lo r h.2.2.1.size⟩
  have hfar : ∀ {l' : Pth} {u' : Value}, Owned W l' u' w1 → Owned W l' u' w4 := fun {l' u'} hx => by
    obtain ⟨gx, capx, curx, e, hblk⟩ := hx.block
    have hl : gx < w1.heap.size := (Array.getElem?_eq_some_iff.1 hblk).1
    have hne : some gx ≠ v.ownBlock := fun ee => by
      rcases h2.2 with ⟨hv, _⟩ | ⟨g', cap', cur, hv, _, hh, _⟩
      · rw [hv] at ee; simp [Value.ownBlock] at ee
      · rw [hv] at ee
        simp [Value.ownBlock] at ee
        subst ee
        rw [hblk] at hh
        simp at hh
    obtain ⟨gy, capy, ey, ry⟩ := hx
    rw [e] at ey
    cases ey
    refine ⟨gx, capx, e, ownsRow_keep ry (fun z hz => ?_)⟩
    cases hz
    exact (hgrow.block gx (by rw [World.size_alloc]; omega) hne).trans (Below.heap_alloc w1 o gx hl)
  refine ⟨by simp [h1], by simpa using hown, ?_, fun j l' u' hj hu => ?_⟩
  · refine (h3.alloc h3.size o).trans (grown_below hgrow (by have := h3.size; rw [World.size_alloc]; omega) (fun z hz => ?_))
    rcases h2.2 with ⟨hv, _⟩ | ⟨g', cap', cur, hv, hg, _⟩
    · rw [hv] at hz; cases hz
    · rw [hv] at hz; cases hz; exact hg
  · by_cases hjl : j < ls.length
    · rw [List.getElem?_append_left hjl] at hj
      rw [List.getElem?_append_left (by omega)] at hu
      exact hfar (h4 j l' u' hj hu)
    · have hlt := (List.getElem?_eq_some_iff.1 hj).1
      simp at hlt
      have ej : j = ls.length := by omega
      subst ej
      simp at hj
      rw [← h1] at hu
      simp at hu
      subst hj; subst hu
      exact hfar hO'
theorem A22 : (Try.prog.info? 22).map (fun i => (i.zero, i.size, i.bytes)) = some (some (.slice none 0 0), 1, 24) := by kernel_rfl
theorem take_snoc (ls : List Pth) (q : Nat) (hq : q < ls.length) : ls.take (q + 1) = ls.take q ++ [ls.getD q []] := by
  rw [List.take_add_one, List.getElem?_eq_getElem hq]
  simp [List.getD, List.getElem?_eq_getElem hq]
set_option maxHeartbeats 4000000 in
set_option maxRecDepth 100000 in
theorem clashes_true (a : Option Addr) (c : Nat) (ls : List Pth) (w : World) (hR : Hid (ReadsL w (.slice a ls.length c) ls)) (hlen : ls.length ≤ 4611686018427387904) (hZ : Hid (∀ l ∈ ls, ∀ x ∈ l, x.size ≤ maxLen)) (hn : Hid (1 + total ls ≤ 1099511627776)) :
    Calls Try.prog 4 #[.slice a ls.length c] w fun e w' => e = .returned (.bool true) ∧ Below w.heap.size w w' := by
  by_cases hbig : 300 < ls.length
  · have hd : decide ((300 : Int) < (ls.length : Int)) = true := by simp; omega
    have hlive := hid_of (live_true w)
    go_enter Try.func4, Try.ntmps4
    go_wp2_with fail
    refine hlive.out.mono ?_
    rintro e w1 ⟨rfl, hb⟩
    go_wp2_with fail
    go_ret
    exact ⟨rfl, hb⟩
  have hd : decide ((300 : Int) < (ls.length : Int)) = false := by simp; omega
  obtain ⟨i22, hi22, hz0, hz1, hz2⟩ := info_parts A22
  go_enter Try.func4, Try.ntmps4
  go_wp2_with fail
  go_loopw [3, 4] (fun v i wr => ∃ (q : Nat) (us : List Value), q ≤ ls.length ∧ i = .int .i64 q ∧ Hid (GivenAt w wr v (ls.take q) us)) (fun _ i _ => ls.length - (intOf i).toNat)
  case atStart => exact ⟨0, [], Nat.zero_le _, rfl, rfl, ⟨rfl, .inl ⟨rfl, rfl⟩⟩, Below.refl _ w, fun j l u h => by simp at h⟩
  case round =>
    obtain ⟨q, us, hq, rfl, hG⟩ := hrel
    by_cases h1 : q < ls.length
    · have hd1 : decide ((q : Int) < (ls.length : Int)) = true := by simp; omega
      obtain ⟨b, o, a1, c1, e1, hb1, n1, r1⟩ := hR.out.at h1
      subst e1
      have hlow := hid_of hG.out.2.2.1
      have htl := total_le ls (q + 1)
      rw [total_take ls q h1] at htl
      have n1' : wr.cell? ⟨b, o + q, none⟩ = some (.slice a1 (ls.getD q []).length c1) := (hlow.out.cell (p := ⟨b, o + q, none⟩) hb1).trans n1
      have hown := hid_of (own_any (.slice a1 (ls.getD q []).length c1) (ls.getD q []) wr (r1.keep hlow.out) (by have := hn.out; omega))
      obtain ⟨A, hAe⟩ : ∃ A, Hid (ls.getD q [] = A) := ⟨_, hid_of rfl⟩
      rw [hAe.out] at n1' hown
      obtain ⟨av, cv, ev, hcv, _⟩ := hG.out.slice
      have htq : Hid ((ls.take q).length = q) := hid_of (by simp; omega)
      clear n1 r1 hb1 htl
      rw [htq.out] at ev
      subst ev
      go_wp2_with (first
        | (go_at_call 13; refine hown.out.mono ?_; rintro r w1 ⟨u, rfl, hO, hbO⟩; obtain ⟨gu, cu, rfl, rO⟩ := hO; replace rO := hid_of rO; replace hbO := hid_of hbO)
        | (at_builtin; refine wpList_append_lies _ rfl _ _ 40 rfl w.heap.size 22 i22 _ 1 24 Try.underlying40 hi22 hz0 hz1 hz2 rfl (by decide) _ q us rfl (by have := (hG.out.keep hbO.out).2.1; rw [htq.out] at this; exact this.alloc _) _ 1 1 [.slice (some ⟨gu, 0, none⟩) A.length cu] rfl rfl (World.news_of_block (heap_alloc_new w1 _)) (by intro z hz; rw [List.mem_singleton] at hz; subst hz; rfl) (by decide) (by unfold maxLen; omega) (by omega) (by have h1 := hlow.out.size; have h2 := hbO.out.size; simp only [World.size_alloc]; omega) _ rfl ?_; intro g c4 w4 hown4 hgrow4 hat4 hlt4; clear hat4 hlt4; replace hown4 := hid_of hown4; replace hgrow4 := hid_of hgrow4))
      have hsn := hG.out.snoc (l := A) (o := .cells #[.slice (some ⟨gu, 0, none⟩) A.length cu] 22) ⟨gu, cu, rfl, rO.out⟩ hbO.out (by rw [htq.out]; exact hown4.out) hgrow4.out
      rw [htq.out, ← hAe.out, ← take_snoc ls q h1] at hsn
      go_roundw
      case rel => exact ⟨q + 1, _, by omega, by simp, hid_of (by rw [hAe.out] at hsn; exact hsn)⟩
      case measure => simp [intOf]; omega
    · have hd1 : decide ((q : Int) < (ls.length : Int)) = false := by simp; omega
      have hql : ls.take q = ls := List.take_of_length_le (by omega)
      rw [hql] at hG
      clear hql
      obtain ⟨av, cv, ev, hcv, -⟩ := hG.out.slice
      subst ev
      have hcl := hid_of (clashes_any av cv ls wr (hid_of hG.out.readsL) (by omega) hZ hn)
      go_wp2_with (go_at_call 14; refine hcl.out.mono ?_; rintro r w6 ⟨n, ok, rfl, hf1, hb6⟩; have hG6 := hid_of (hG.out.keep hb6); have hR6 := hid_of (hR.out.keep hG6.out.2.2.1); replace hf1 := hid_of hf1; have hrc := hid_of (rclashes_any a c ls w6 hR6 (by omega)))
      refine hrc.out.mono ?_
      rintro r w7 ⟨n2, ok2, rfl, hf2, hk7⟩
      obtain ⟨e1, e2⟩ := found_one hf1.out hf2
      subst e1
      subst e2
      have hG7 : Hid (GivenAt w w7 (.slice av ls.length cv) ls us) := by obtain ⟨k, e7⟩ := hk7; rw [e7]; exact hG6.out.drewN k
      have hR7 : Hid (ReadsL w7 (.slice a ls.length c) ls) := by obtain ⟨k, e7⟩ := hk7; rw [e7]; exact hR6.out
      clear hrc hk7 hf1 hf2 hG6 hR6 hb6 hcl hG hR
      have hAl : Hid (∀ q, q < ls.length → (ls.getD q []).length ≤ 1099511627776) := hid_of (fun q hq => by
        have h1 := total_le ls (q + 1)
        rw [total_take ls q hq] at h1
        have := hn.out
        omega)
      clear hd1 h1 hq
      go_wp2_with fail
      go_loopw [9] (fun i w8 => ∃ q : Nat, q ≤ ls.length ∧ i = .int .i64 q ∧ Hid (∃ m, w8 = w7.drewN m)) (fun i _ => ls.length - (intOf i).toNat)
      case atStart => exact ⟨0, Nat.zero_le _, rfl, hid_of ⟨0, rfl⟩⟩
      case round =>
        obtain ⟨q, hq, rfl, hw8⟩ := hrel
        by_cases h1 : q < ls.length
        · have hd1 : decide ((q : Int) < (ls.length : Int)) = true := by simp; omega
          obtain ⟨g, gq, cq, eg, m1, ow1, _⟩ := hG7.out.at h1
          subst eg
          obtain ⟨b, o, a1, c1, e1, _, n1, r1⟩ := hR7.out.at h1
          subst e1
          obtain ⟨A, hA⟩ : ∃ A, Hid (ls.getD q [] = A) := ⟨_, hid_of rfl⟩
          have hal := hAl.out q h1
          rw [hA.out] at m1 ow1 n1 r1 hal
          have i1 : (q : Int) < (ls.length : Int) := by omega
          have i3 : (0 : Int) ≤ (q : Int) := by omega
          replace ow1 := hid_of ow1; replace r1 := hid_of r1; replace m1 := hid_of m1; replace n1 := hid_of n1
          go_wp2_with fail
          go_loopw [10] (fun i w9 => ∃ x : Nat, x ≤ ls.length ∧ i = .int .i64 x ∧ Hid (∃ m, w9 = w7.drewN m)) (fun i _ => ls.length - (intOf i).toNat)
          case atStart => exact ⟨0, Nat.zero_le _, rfl, hw8⟩
          case round =>
            obtain ⟨x, hx, rfl, hw9⟩ := hrel
            by_cases h2 : x < ls.length
            · have hd2 : decide ((x : Int) < (ls.length : Int)) = true := by simp; omega
              obtain ⟨g', gx, cx, eg, m2, ow2, _⟩ := hG7.out.at h2
              cases eg
              obtain ⟨b', o', a2, c2, e2, _, n2, r2⟩ := hR7.out.at h2
              cases e2
              obtain ⟨B, hB⟩ : ∃ B, Hid (ls.getD x [] = B) := ⟨_, hid_of rfl⟩
              rw [hB.out] at m2 ow2 n2 r2
              have c1' : wr.cell? ⟨g, q, none⟩ = some (.slice (some ⟨gq, 0, none⟩) A.length cq) := by obtain ⟨m3, e3⟩ := hw9.out; rw [e3]; exact m1.out
              have c2' : wr.cell? ⟨g, x, none⟩ = some (.slice (some ⟨gx, 0, none⟩) B.length cx) := by obtain ⟨m3, e3⟩ := hw9.out; rw [e3]; exact m2
              have c3' : wr.cell? ⟨b, o + q, none⟩ = some (.slice a1 A.length c1) := by obtain ⟨m3, e3⟩ := hw9.out; rw [e3]; exact n1.out
              have c4' : wr.cell? ⟨b, o + x, none⟩ = some (.slice a2 B.length c2) := by obtain ⟨m3, e3⟩ := hw9.out; rw [e3]; exact n2
              have hc1 := hid_of (fun v => clash2 gq cq gx cx A B (wr.drewN v) (by obtain ⟨m3, e3⟩ := hw9.out; rw [e3]; exact ow1.out.reads) (by obtain ⟨m3, e3⟩ := hw9.out; rw [e3]; exact ow2.reads) hal)
              have hc2 := hid_of (fun v => rclash2 a1 c1 a2 c2 A B (wr.drewN v) (hid_of (by obtain ⟨m3, e3⟩ := hw9.out; rw [e3]; exact r1.out)) (hid_of (by obtain ⟨m3, e3⟩ := hw9.out; rw [e3]; exact r2)))
              have i2 : (x : Int) < (ls.length : Int) := by omega
              have i4 : (0 : Int) ≤ (x : Int) := by omega
              clear m2 ow2 n2 r2
              rcases Bool.eq_false_or_eq_true (clB A B) with hbb | hbb
              all_goals
                rw [hbb] at hc1 hc2
                clear hbb
                go_wp2_with fail
                go_quiet (first | (go_at_call 16; exact Calls.quiet_of (hc1.out _)) | (go_at_call 6; exact Calls.quiet_of (hc2.out _)))
                go_wp2_with fail
                go_roundw
                case rel => exact ⟨x + 1, by omega, by simp, hid_of (by obtain ⟨m3, e3⟩ := hw9.out; rw [e3]; exact ⟨m3 + nq, World.drewN_drewN _ _ _⟩)⟩
                case measure => simp [intOf]; omega
            · have hd2 : decide ((x : Int) < (ls.length : Int)) = false := by simp; omega
              have c1' : wr.cell? ⟨g, q, none⟩ = some (.slice (some ⟨gq, 0, none⟩) A.length cq) := by obtain ⟨m3, e3⟩ := hw9.out; rw [e3]; exact m1.out
              have c3' : wr.cell? ⟨b, o + q, none⟩ = some (.slice a1 A.length c1) := by obtain ⟨m3, e3⟩ := hw9.out; rw [e3]; exact n1.out
              have hkp := hid_of (fun v => kept_any w (.slice (some ⟨gq, 0, none⟩) A.length cq) (.slice a1 A.length c1) A (wr.drewN v) (by obtain ⟨m3, e3⟩ := hw9.out; rw [e3]; exact ow1.out) (by obtain ⟨m3, e3⟩ := hw9.out; rw [e3]; exact r1.out) (by omega))
              go_wp2_with fail
              go_quiet ((go_at_call 17; exact Calls.quiet_of (hkp.out _)))
              go_wp2_with fail
              go_roundw
              case rel => exact ⟨q + 1, by omega, by simp, hid_of (by obtain ⟨m3, e3⟩ := hw9.out; rw [e3]; exact ⟨m3 + nq, World.drewN_drewN _ _ _⟩)⟩
              case measure => simp [intOf]; omega
        · have hd1 : decide ((q : Int) < (ls.length : Int)) = false := by simp; omega
          have hlow := hid_of hG7.out.2.2.1
          have hlive := hid_of (live_true wr)
          have hwb : Hid (Below w.heap.size w wr) := by obtain ⟨m3, e3⟩ := hw8.out; rw [e3]; exact below_drewN hlow.out m3
          go_wp2_with (go_at_call 8; refine hlive.out.mono ?_; rintro r w9 ⟨rfl, hb9⟩; replace hb9 := hid_of hb9)
          go_ret
          exact ⟨rfl, hwb.out.trans (hb9.out.mono hwb.out.size)⟩
end Go.Proofs.Ytbhjbicbgmeboaa
