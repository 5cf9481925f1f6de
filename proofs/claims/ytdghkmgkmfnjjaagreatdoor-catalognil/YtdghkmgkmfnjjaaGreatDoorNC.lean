import Derived.Test.YtdghkmgkmfnjjaaGreatDoorNB
/-! does, of a nil catalog. -/
namespace Go.Proofs.YtdghkmgkmfnjjaaGreatDoor
open Go Go.RowKit Go.Maps

theorem act_at {w : World} {b : Nat} {c0 c1 c2 c3 c4 c5 c6 c7 c8 c9 c10 c11 c12 c13 c14 : Value} {t : TypeId} (h : w.heap[b]? = some (.cells #[c0, c1, c2, c3, c4, c5, c6, c7, c8, c9, c10, c11, c12, c13, c14] t (0, 0))) :
    w.cell? ⟨b, 0, none⟩ = some c0 ∧ w.cell? ⟨b, 1, none⟩ = some c1 ∧ w.cell? ⟨b, 2, none⟩ = some c2 ∧ w.cell? ⟨b, 3, none⟩ = some c3 ∧ w.cell? ⟨b, 4, none⟩ = some c4 ∧ w.cell? ⟨b, 5, none⟩ = some c5 ∧ w.cell? ⟨b, 6, none⟩ = some c6 ∧ w.cell? ⟨b, 7, none⟩ = some c7 ∧ w.cell? ⟨b, 8, none⟩ = some c8 ∧ w.cell? ⟨b, 9, none⟩ = some c9 ∧ w.cell? ⟨b, 10, none⟩ = some c10 ∧ w.cell? ⟨b, 11, none⟩ = some c11 ∧ w.cell? ⟨b, 12, none⟩ = some c12 ∧ w.cell? ⟨b, 13, none⟩ = some c13 ∧ w.cell? ⟨b, 14, none⟩ = some c14 := by
  refine ⟨?_, ?_, ?_, ?_, ?_, ?_, ?_, ?_, ?_, ?_, ?_, ?_, ?_, ?_, ?_⟩
  all_goals simp [World.cell?, h]
theorem below_seven {B : Nat} {a w : World} (h : Below B a w) {g : Nat} (hg : B ≤ g) {j0 j1 j2 j3 j4 j5 j6 : Nat} {v0 v1 v2 v3 v4 v5 v6 : Value} : Below B a (((((((w.setCell ⟨g, j0, none⟩ v0).setCell ⟨g, j1, none⟩ v1).setCell ⟨g, j2, none⟩ v2).setCell ⟨g, j3, none⟩ v3).setCell ⟨g, j4, none⟩ v4).setCell ⟨g, j5, none⟩ v5).setCell ⟨g, j6, none⟩ v6) := by
  iterate 7 refine Below.setCell ?_ hg _
  exact h
theorem th_seven {w : World} {g m : Nat} (h : Th w g m) {j0 j1 j2 j3 j4 j5 j6 : Nat} {v0 v1 v2 v3 v4 v5 v6 : Value} : Th (((((((w.setCell ⟨g, j0, none⟩ v0).setCell ⟨g, j1, none⟩ v1).setCell ⟨g, j2, none⟩ v2).setCell ⟨g, j3, none⟩ v3).setCell ⟨g, j4, none⟩ v4).setCell ⟨g, j5, none⟩ v5).setCell ⟨g, j6, none⟩ v6) g m := by
  iterate 7 refine Th.set ?_ _ _
  exact h
theorem Th.far {w : World} {g c m : Nat} (h : Th w g m) (hc : c ≠ g) (j : Nat) (u : Value) : Th (w.setCell ⟨c, j, none⟩ u) g m := by
  obtain ⟨cs, h1, h2⟩ := h
  exact ⟨cs, (Below.heap_setCell _ _ _ _ (Ne.symm hc)).trans h1, h2⟩
theorem th_seven_far {w : World} {g c m : Nat} (h : Th w g m) (hc : c ≠ g) {j0 j1 j2 j3 j4 j5 j6 : Nat} {v0 v1 v2 v3 v4 v5 v6 : Value} : Th (((((((w.setCell ⟨c, j0, none⟩ v0).setCell ⟨c, j1, none⟩ v1).setCell ⟨c, j2, none⟩ v2).setCell ⟨c, j3, none⟩ v3).setCell ⟨c, j4, none⟩ v4).setCell ⟨c, j5, none⟩ v5).setCell ⟨c, j6, none⟩ v6) g m := by
  iterate 7 refine Th.far ?_ hc _ _
  exact h
set_option maxHeartbeats 16000000 in
set_option maxRecDepth 100000 in
theorem does_nil (k : Int) (nm : ByteArray) (ms sk sx : Int) (ss : ByteArray) (sa : Option Addr) (sl sc : Nat) (si : Option Addr) (sil sic : Nat) (pn pp : ByteArray) (pu : Bool) (aw : Option Addr) (nw cw : Nat) (an : Option Addr) (nn cn : Nat) (r1 r2 : Int) (csw csn : List Value) (w : World) (hW : RawAt w aw nw csw) (hN : RawAt w an nn csn) (hnw : nw * 104 ≤ 140737488355328) (hnn : nn * 104 ≤ 140737488355328) :
    Calls Tryz.prog 5 #[.pointer none, .agg #[.int .i64 k, .string nm, .int .i64 ms, .int .i64 sk, .int .i64 sx, .string ss, .slice sa sl sc, .slice si sil sic, .string pn, .string pp, .bool pu, .slice aw nw cw, .slice an nn cn, .int .i64 r1, .int .i64 r2]] w fun e w' => e = .returned (.tuple #[.pointer none, .int .i64 0]) ∧ Below w.heap.size w w' := by
  have hB := (Below.refl _ w).alloc (Nat.le_refl _) (.cells #[.int .i64 k, .string nm, .int .i64 ms, .int .i64 sk, .int .i64 sx, .string ss, .slice sa sl sc, .slice si sil sic, .string pn, .string pp, .bool pu, .slice aw nw cw, .slice an nn cn, .int .i64 r1, .int .i64 r2] 32)
  have hA := heap_alloc_new w (.cells #[.int .i64 k, .string nm, .int .i64 ms, .int .i64 sk, .int .i64 sx, .string ss, .slice sa sl sc, .slice si sil sic, .string pn, .string pp, .bool pu, .slice aw nw cw, .slice an nn cn, .int .i64 r1, .int .i64 r2] 32)
  have how := hid_of (own_row aw nw cw csw _ (hW.keep hB) hnw)
  have hon := hid_of (fun W (hb : Below w.heap.size w W) => own_row an nn cn csn W (hN.keep hb) hnn)
  obtain ⟨b, hb⟩ : ∃ b, Hid (b = w.heap.size) := ⟨_, rfl⟩
  rw [← hb.out] at hA
  have q11 := (act_at hA).2.2.2.2.2.2.2.2.2.2.2.1
  have hnum := fun e W => hid_of (num17 e W)
  have bw : Hid (nw ≤ 1400000000000) := by unfold Hid; omega
  have bn : Hid (nn ≤ 1400000000000) := by unfold Hid; omega
  replace hB := hid_of hB
  replace hA := hid_of hA
  clear hW hN hnw hnn
  go_enter Tryz.func5, Tryz.ntmps5
  go_wp2_with (rw [← hb.out])
  refine how.out.mono ?_
  rintro e X1 ⟨hb1, gw, c1, rfl, hg1, hT1⟩
  replace hA := hid_of (block_keep hA.out hb1)
  have q12 := (act_at hA.out).2.2.2.2.2.2.2.2.2.2.2.2.1
  replace hB := hid_of (hB.out.trans (hb1.mono hB.out.size))
  have hon' := hid_of (hon.out X1 hB.out)
  have hg1' : Hid (w.heap.size ≤ gw) := Nat.le_trans (by simp) hg1
  replace hT1 := hid_of hT1
  clear how hon q11 hb1 hg1
  go_wp2_with fail
  refine hon'.out.mono ?_
  rintro e X2 ⟨hb2, gn, c2, rfl, hg2, hT2⟩
  replace hA := hid_of (block_keep hA.out hb2)
  have hg2' : Hid (w.heap.size ≤ gn) := Nat.le_trans hB.out.size hg2
  have hg12 : Hid (gw ≠ gn) := by
    obtain ⟨cs, h1, -⟩ := hT1.out
    have := (Array.getElem?_eq_some_iff.1 h1).1
    unfold Hid
    omega
  replace hB := hid_of (hB.out.trans (hb2.mono hB.out.size))
  replace hT1 := hid_of (hT1.out.keep hb2)
  replace hT2 := hid_of hT2
  obtain ⟨q0, q1, q2, q3, q4, q5, q6, q7, q8, q9, q10, -, -, q13, q14⟩ := act_at hA.out
  clear hon' q12 hb2 hg2
  by_cases h1 : k = 1
  · subst h1
    go_wp2_with fail
    refine (ncreate _ _ _ _ _ _ _ _ _ _ _ _).mono ?_
    rintro e X3 ⟨rfl, hb3⟩
    replace hB := hid_of (hB.out.trans (hb3.mono hB.out.size))
    replace hT1 := hid_of (hT1.out.keep hb3)
    replace hT2 := hid_of (hT2.out.keep hb3)
    clear q0 q1 q2 q3 q4 q5 q6 q7 q8 q9 q10 q13 q14 hb3 hA
    go_wp2_with fail
    go_loopw [10] (fun i wr => ∃ q : Nat, q ≤ nw ∧ i = .int .i64 q ∧ Below w.heap.size w wr ∧ Th wr gw (nw * 7) ∧ Th wr gn (nn * 7)) (fun i _ => nw - (intOf i).toNat)
    case atStart => exact ⟨0, Nat.zero_le _, rfl, hB.out, hT1.out, hT2.out⟩
    case round =>
      clear hB hT1 hT2
      rename_i wr
      obtain ⟨q, hq, rfl, hB, hT1, hT2⟩ := hrel
      by_cases hlt : q < nw
      · have hd : decide ((q : Int) < (nw : Int)) = true := by simp; omega
        have hq1 : (q : Int) < (nw : Int) := by omega
        have hq2 : (q : Int) ≤ 1400000000000 := by have := bw.out; omega
        obtain ⟨⟨u0, x0⟩, f0⟩ := hT1.at (show q * 7 + 0 < nw * 7 by omega)
        obtain ⟨⟨u1, x1⟩, f1⟩ := hT1.at (show q * 7 + 1 < nw * 7 by omega)
        obtain ⟨⟨u2, x2⟩, f2⟩ := hT1.at (show q * 7 + 2 < nw * 7 by omega)
        obtain ⟨⟨u3, x3⟩, f3⟩ := hT1.at (show q * 7 + 3 < nw * 7 by omega)
        obtain ⟨⟨u4, x4⟩, f4⟩ := hT1.at (show q * 7 + 4 < nw * 7 by omega)
        obtain ⟨⟨u5, x5⟩, f5⟩ := hT1.at (show q * 7 + 5 < nw * 7 by omega)
        obtain ⟨⟨u6, x6⟩, f6⟩ := hT1.at (show q * 7 + 6 < nw * 7 by omega)
        rw [Nat.add_zero] at x0 f0
        replace hB := hid_of hB
        replace hT1 := hid_of hT1
        replace hT2 := hid_of hT2
        go_wp2_with fail
        go_roundw
        case rel => exact ⟨q + 1, by omega, by simp, below_seven hB.out hg1'.out, th_seven hT1.out, th_seven_far hT2.out hg12.out⟩
        case measure => simp [intOf]; omega
      · have hd : decide ((q : Int) < (nw : Int)) = false := by simp; omega
        have hq1 : ¬ ((q : Int) < (nw : Int)) := by omega
        replace hB := hid_of hB
        replace hT1 := hid_of hT1
        replace hT2 := hid_of hT2
        go_wp2_with fail
        go_loopw [11] (fun i wr => ∃ q : Nat, q ≤ nn ∧ i = .int .i64 q ∧ Below w.heap.size w wr ∧ Th wr gn (nn * 7)) (fun i _ => nn - (intOf i).toNat)
        case atStart => exact ⟨0, Nat.zero_le _, rfl, hB.out, hT2.out⟩
        case round =>
          clear hB hT1 hT2
          rename_i wr
          obtain ⟨q, hq, rfl, hB, hT2⟩ := hrel
          by_cases hlt : q < nn
          · have hd : decide ((q : Int) < (nn : Int)) = true := by simp; omega
            have hq1 : (q : Int) < (nn : Int) := by omega
            have hq2 : (q : Int) ≤ 1400000000000 := by have := bn.out; omega
            obtain ⟨⟨u0, x0⟩, f0⟩ := hT2.at (show q * 7 + 0 < nn * 7 by omega)
            obtain ⟨⟨u1, x1⟩, f1⟩ := hT2.at (show q * 7 + 1 < nn * 7 by omega)
            obtain ⟨⟨u2, x2⟩, f2⟩ := hT2.at (show q * 7 + 2 < nn * 7 by omega)
            obtain ⟨⟨u3, x3⟩, f3⟩ := hT2.at (show q * 7 + 3 < nn * 7 by omega)
            obtain ⟨⟨u4, x4⟩, f4⟩ := hT2.at (show q * 7 + 4 < nn * 7 by omega)
            obtain ⟨⟨u5, x5⟩, f5⟩ := hT2.at (show q * 7 + 5 < nn * 7 by omega)
            obtain ⟨⟨u6, x6⟩, f6⟩ := hT2.at (show q * 7 + 6 < nn * 7 by omega)
            rw [Nat.add_zero] at x0 f0
            replace hB := hid_of hB
            replace hT2 := hid_of hT2
            go_wp2_with fail
            go_roundw
            case rel => exact ⟨q + 1, by omega, by simp, below_seven hB.out hg2'.out, th_seven hT2.out⟩
            case measure => simp [intOf]; omega
          · have hd : decide ((q : Int) < (nn : Int)) = false := by simp; omega
            have hq1 : ¬ ((q : Int) < (nn : Int)) := by omega
            replace hB := hid_of hB
            replace hT2 := hid_of hT2
            go_wp2_with fail
            refine (hnum _ _).out.mono ?_
            rintro e Z ⟨rfl, hZ⟩
            have hZ := hZ.symm
            subst hZ
            go_wp2_with fail
            go_ret2
            exact ⟨rfl, hB.out⟩
  · have h1' : (k == 1) = false := by simpa using h1
    clear h1
    by_cases h2 : k = 2
    · subst h2
      go_wp2_with fail
      refine (ndrop _ _).mono ?_
      rintro e X3 ⟨rfl, hb3⟩
      replace hB := hid_of (hB.out.trans (hb3.mono hB.out.size))
      replace hT1 := hid_of (hT1.out.keep hb3)
      replace hT2 := hid_of (hT2.out.keep hb3)
      clear q0 q1 q2 q3 q4 q5 q6 q7 q8 q9 q10 q13 q14 hb3 hA
      go_wp2_with fail
      go_loopw [10] (fun i wr => ∃ q : Nat, q ≤ nw ∧ i = .int .i64 q ∧ Below w.heap.size w wr ∧ Th wr gw (nw * 7) ∧ Th wr gn (nn * 7)) (fun i _ => nw - (intOf i).toNat)
      case atStart => exact ⟨0, Nat.zero_le _, rfl, hB.out, hT1.out, hT2.out⟩
      case round =>
        clear hB hT1 hT2
        rename_i wr
        obtain ⟨q, hq, rfl, hB, hT1, hT2⟩ := hrel
        by_cases hlt : q < nw
        · have hd : decide ((q : Int) < (nw : Int)) = true := by simp; omega
          have hq1 : (q : Int) < (nw : Int) := by omega
          have hq2 : (q : Int) ≤ 1400000000000 := by have := bw.out; omega
          obtain ⟨⟨u0, x0⟩, f0⟩ := hT1.at (show q * 7 + 0 < nw * 7 by omega)
          obtain ⟨⟨u1, x1⟩, f1⟩ := hT1.at (show q * 7 + 1 < nw * 7 by omega)
          obtain ⟨⟨u2, x2⟩, f2⟩ := hT1.at (show q * 7 + 2 < nw * 7 by omega)
          obtain ⟨⟨u3, x3⟩, f3⟩ := hT1.at (show q * 7 + 3 < nw * 7 by omega)
          obtain ⟨⟨u4, x4⟩, f4⟩ := hT1.at (show q * 7 + 4 < nw * 7 by omega)
          obtain ⟨⟨u5, x5⟩, f5⟩ := hT1.at (show q * 7 + 5 < nw * 7 by omega)
          obtain ⟨⟨u6, x6⟩, f6⟩ := hT1.at (show q * 7 + 6 < nw * 7 by omega)
          rw [Nat.add_zero] at x0 f0
          replace hB := hid_of hB
          replace hT1 := hid_of hT1
          replace hT2 := hid_of hT2
          go_wp2_with fail
          go_roundw
          case rel => exact ⟨q + 1, by omega, by simp, below_seven hB.out hg1'.out, th_seven hT1.out, th_seven_far hT2.out hg12.out⟩
          case measure => simp [intOf]; omega
        · have hd : decide ((q : Int) < (nw : Int)) = false := by simp; omega
          have hq1 : ¬ ((q : Int) < (nw : Int)) := by omega
          replace hB := hid_of hB
          replace hT1 := hid_of hT1
          replace hT2 := hid_of hT2
          go_wp2_with fail
          go_loopw [11] (fun i wr => ∃ q : Nat, q ≤ nn ∧ i = .int .i64 q ∧ Below w.heap.size w wr ∧ Th wr gn (nn * 7)) (fun i _ => nn - (intOf i).toNat)
          case atStart => exact ⟨0, Nat.zero_le _, rfl, hB.out, hT2.out⟩
          case round =>
            clear hB hT1 hT2
            rename_i wr
            obtain ⟨q, hq, rfl, hB, hT2⟩ := hrel
            by_cases hlt : q < nn
            · have hd : decide ((q : Int) < (nn : Int)) = true := by simp; omega
              have hq1 : (q : Int) < (nn : Int) := by omega
              have hq2 : (q : Int) ≤ 1400000000000 := by have := bn.out; omega
              obtain ⟨⟨u0, x0⟩, f0⟩ := hT2.at (show q * 7 + 0 < nn * 7 by omega)
              obtain ⟨⟨u1, x1⟩, f1⟩ := hT2.at (show q * 7 + 1 < nn * 7 by omega)
              obtain ⟨⟨u2, x2⟩, f2⟩ := hT2.at (show q * 7 + 2 < nn * 7 by omega)
              obtain ⟨⟨u3, x3⟩, f3⟩ := hT2.at (show q * 7 + 3 < nn * 7 by omega)
              obtain ⟨⟨u4, x4⟩, f4⟩ := hT2.at (show q * 7 + 4 < nn * 7 by omega)
              obtain ⟨⟨u5, x5⟩, f5⟩ := hT2.at (show q * 7 + 5 < nn * 7 by omega)
              obtain ⟨⟨u6, x6⟩, f6⟩ := hT2.at (show q * 7 + 6 < nn * 7 by omega)
              rw [Nat.add_zero] at x0 f0
              replace hB := hid_of hB
              replace hT2 := hid_of hT2
              go_wp2_with fail
              go_roundw
              case rel => exact ⟨q + 1, by omega, by simp, below_seven hB.out hg2'.out, th_seven hT2.out⟩
              case measure => simp [intOf]; omega
            · have hd : decide ((q : Int) < (nn : Int)) = false := by simp; omega
              have hq1 : ¬ ((q : Int) < (nn : Int)) := by omega
              replace hB := hid_of hB
              replace hT2 := hid_of hT2
              go_wp2_with fail
              refine (hnum _ _).out.mono ?_
              rintro e Z ⟨rfl, hZ⟩
              have hZ := hZ.symm
              subst hZ
              go_wp2_with fail
              go_ret2
              exact ⟨rfl, hB.out⟩
    · have h2' : (k == 2) = false := by simpa using h2
      clear h2
      by_cases h3 : k = 3
      · subst h3
        go_wp2_with fail
        refine (nindex _ _ _ _ _ _ _ _).mono ?_
        rintro e X3 ⟨rfl, hb3⟩
        replace hB := hid_of (hB.out.trans (hb3.mono hB.out.size))
        replace hT1 := hid_of (hT1.out.keep hb3)
        replace hT2 := hid_of (hT2.out.keep hb3)
        clear q0 q1 q2 q3 q4 q5 q6 q7 q8 q9 q10 q13 q14 hb3 hA
        go_wp2_with fail
        go_loopw [10] (fun i wr => ∃ q : Nat, q ≤ nw ∧ i = .int .i64 q ∧ Below w.heap.size w wr ∧ Th wr gw (nw * 7) ∧ Th wr gn (nn * 7)) (fun i _ => nw - (intOf i).toNat)
        case atStart => exact ⟨0, Nat.zero_le _, rfl, hB.out, hT1.out, hT2.out⟩
        case round =>
          clear hB hT1 hT2
          rename_i wr
          obtain ⟨q, hq, rfl, hB, hT1, hT2⟩ := hrel
          by_cases hlt : q < nw
          · have hd : decide ((q : Int) < (nw : Int)) = true := by simp; omega
            have hq1 : (q : Int) < (nw : Int) := by omega
            have hq2 : (q : Int) ≤ 1400000000000 := by have := bw.out; omega
            obtain ⟨⟨u0, x0⟩, f0⟩ := hT1.at (show q * 7 + 0 < nw * 7 by omega)
            obtain ⟨⟨u1, x1⟩, f1⟩ := hT1.at (show q * 7 + 1 < nw * 7 by omega)
            obtain ⟨⟨u2, x2⟩, f2⟩ := hT1.at (show q * 7 + 2 < nw * 7 by omega)
            obtain ⟨⟨u3, x3⟩, f3⟩ := hT1.at (show q * 7 + 3 < nw * 7 by omega)
            obtain ⟨⟨u4, x4⟩, f4⟩ := hT1.at (show q * 7 + 4 < nw * 7 by omega)
            obtain ⟨⟨u5, x5⟩, f5⟩ := hT1.at (show q * 7 + 5 < nw * 7 by omega)
            obtain ⟨⟨u6, x6⟩, f6⟩ := hT1.at (show q * 7 + 6 < nw * 7 by omega)
            rw [Nat.add_zero] at x0 f0
            replace hB := hid_of hB
            replace hT1 := hid_of hT1
            replace hT2 := hid_of hT2
            go_wp2_with fail
            go_roundw
            case rel => exact ⟨q + 1, by omega, by simp, below_seven hB.out hg1'.out, th_seven hT1.out, th_seven_far hT2.out hg12.out⟩
            case measure => simp [intOf]; omega
          · have hd : decide ((q : Int) < (nw : Int)) = false := by simp; omega
            have hq1 : ¬ ((q : Int) < (nw : Int)) := by omega
            replace hB := hid_of hB
            replace hT1 := hid_of hT1
            replace hT2 := hid_of hT2
            go_wp2_with fail
            go_loopw [11] (fun i wr => ∃ q : Nat, q ≤ nn ∧ i = .int .i64 q ∧ Below w.heap.size w wr ∧ Th wr gn (nn * 7)) (fun i _ => nn - (intOf i).toNat)
            case atStart => exact ⟨0, Nat.zero_le _, rfl, hB.out, hT2.out⟩
            case round =>
              clear hB hT1 hT2
              rename_i wr
              obtain ⟨q, hq, rfl, hB, hT2⟩ := hrel
              by_cases hlt : q < nn
              · have hd : decide ((q : Int) < (nn : Int)) = true := by simp; omega
                have hq1 : (q : Int) < (nn : Int) := by omega
                have hq2 : (q : Int) ≤ 1400000000000 := by have := bn.out; omega
                obtain ⟨⟨u0, x0⟩, f0⟩ := hT2.at (show q * 7 + 0 < nn * 7 by omega)
                obtain ⟨⟨u1, x1⟩, f1⟩ := hT2.at (show q * 7 + 1 < nn * 7 by omega)
                obtain ⟨⟨u2, x2⟩, f2⟩ := hT2.at (show q * 7 + 2 < nn * 7 by omega)
                obtain ⟨⟨u3, x3⟩, f3⟩ := hT2.at (show q * 7 + 3 < nn * 7 by omega)
                obtain ⟨⟨u4, x4⟩, f4⟩ := hT2.at (show q * 7 + 4 < nn * 7 by omega)
                obtain ⟨⟨u5, x5⟩, f5⟩ := hT2.at (show q * 7 + 5 < nn * 7 by omega)
                obtain ⟨⟨u6, x6⟩, f6⟩ := hT2.at (show q * 7 + 6 < nn * 7 by omega)
                rw [Nat.add_zero] at x0 f0
                replace hB := hid_of hB
                replace hT2 := hid_of hT2
                go_wp2_with fail
                go_roundw
                case rel => exact ⟨q + 1, by omega, by simp, below_seven hB.out hg2'.out, th_seven hT2.out⟩
                case measure => simp [intOf]; omega
              · have hd : decide ((q : Int) < (nn : Int)) = false := by simp; omega
                have hq1 : ¬ ((q : Int) < (nn : Int)) := by omega
                replace hB := hid_of hB
                replace hT2 := hid_of hT2
                go_wp2_with fail
                refine (hnum _ _).out.mono ?_
                rintro e Z ⟨rfl, hZ⟩
                have hZ := hZ.symm
                subst hZ
                go_wp2_with fail
                go_ret2
                exact ⟨rfl, hB.out⟩
      · have h3' : (k == 3) = false := by simpa using h3
        clear h3
        by_cases h4 : k = 4
        · subst h4
          go_wp2_with fail
          refine (nunindex _ _ _).mono ?_
          rintro e X3 ⟨rfl, hb3⟩
          replace hB := hid_of (hB.out.trans (hb3.mono hB.out.size))
          replace hT1 := hid_of (hT1.out.keep hb3)
          replace hT2 := hid_of (hT2.out.keep hb3)
          clear q0 q1 q2 q3 q4 q5 q6 q7 q8 q9 q10 q13 q14 hb3 hA
          go_wp2_with fail
          go_loopw [10] (fun i wr => ∃ q : Nat, q ≤ nw ∧ i = .int .i64 q ∧ Below w.heap.size w wr ∧ Th wr gw (nw * 7) ∧ Th wr gn (nn * 7)) (fun i _ => nw - (intOf i).toNat)
          case atStart => exact ⟨0, Nat.zero_le _, rfl, hB.out, hT1.out, hT2.out⟩
          case round =>
            clear hB hT1 hT2
            rename_i wr
            obtain ⟨q, hq, rfl, hB, hT1, hT2⟩ := hrel
            by_cases hlt : q < nw
            · have hd : decide ((q : Int) < (nw : Int)) = true := by simp; omega
              have hq1 : (q : Int) < (nw : Int) := by omega
              have hq2 : (q : Int) ≤ 1400000000000 := by have := bw.out; omega
              obtain ⟨⟨u0, x0⟩, f0⟩ := hT1.at (show q * 7 + 0 < nw * 7 by omega)
              obtain ⟨⟨u1, x1⟩, f1⟩ := hT1.at (show q * 7 + 1 < nw * 7 by omega)
              obtain ⟨⟨u2, x2⟩, f2⟩ := hT1.at (show q * 7 + 2 < nw * 7 by omega)
              obtain ⟨⟨u3, x3⟩, f3⟩ := hT1.at (show q * 7 + 3 < nw * 7 by omega)
              obtain ⟨⟨u4, x4⟩, f4⟩ := hT1.at (show q * 7 + 4 < nw * 7 by omega)
              obtain ⟨⟨u5, x5⟩, f5⟩ := hT1.at (show q * 7 + 5 < nw * 7 by omega)
              obtain ⟨⟨u6, x6⟩, f6⟩ := hT1.at (show q * 7 + 6 < nw * 7 by omega)
              rw [Nat.add_zero] at x0 f0
              replace hB := hid_of hB
              replace hT1 := hid_of hT1
              replace hT2 := hid_of hT2
              go_wp2_with fail
              go_roundw
              case rel => exact ⟨q + 1, by omega, by simp, below_seven hB.out hg1'.out, th_seven hT1.out, th_seven_far hT2.out hg12.out⟩
              case measure => simp [intOf]; omega
            · have hd : decide ((q : Int) < (nw : Int)) = false := by simp; omega
              have hq1 : ¬ ((q : Int) < (nw : Int)) := by omega
              replace hB := hid_of hB
              replace hT1 := hid_of hT1
              replace hT2 := hid_of hT2
              go_wp2_with fail
              go_loopw [11] (fun i wr => ∃ q : Nat, q ≤ nn ∧ i = .int .i64 q ∧ Below w.heap.size w wr ∧ Th wr gn (nn * 7)) (fun i _ => nn - (intOf i).toNat)
              case atStart => exact ⟨0, Nat.zero_le _, rfl, hB.out, hT2.out⟩
              case round =>
                clear hB hT1 hT2
                rename_i wr
                obtain ⟨q, hq, rfl, hB, hT2⟩ := hrel
                by_cases hlt : q < nn
                · have hd : decide ((q : Int) < (nn : Int)) = true := by simp; omega
                  have hq1 : (q : Int) < (nn : Int) := by omega
                  have hq2 : (q : Int) ≤ 1400000000000 := by have := bn.out; omega
                  obtain ⟨⟨u0, x0⟩, f0⟩ := hT2.at (show q * 7 + 0 < nn * 7 by omega)
                  obtain ⟨⟨u1, x1⟩, f1⟩ := hT2.at (show q * 7 + 1 < nn * 7 by omega)
                  obtain ⟨⟨u2, x2⟩, f2⟩ := hT2.at (show q * 7 + 2 < nn * 7 by omega)
                  obtain ⟨⟨u3, x3⟩, f3⟩ := hT2.at (show q * 7 + 3 < nn * 7 by omega)
                  obtain ⟨⟨u4, x4⟩, f4⟩ := hT2.at (show q * 7 + 4 < nn * 7 by omega)
                  obtain ⟨⟨u5, x5⟩, f5⟩ := hT2.at (show q * 7 + 5 < nn * 7 by omega)
                  obtain ⟨⟨u6, x6⟩, f6⟩ := hT2.at (show q * 7 + 6 < nn * 7 by omega)
                  rw [Nat.add_zero] at x0 f0
                  replace hB := hid_of hB
                  replace hT2 := hid_of hT2
                  go_wp2_with fail
                  go_roundw
                  case rel => exact ⟨q + 1, by omega, by simp, below_seven hB.out hg2'.out, th_seven hT2.out⟩
                  case measure => simp [intOf]; omega
                · have hd : decide ((q : Int) < (nn : Int)) = false := by simp; omega
                  have hq1 : ¬ ((q : Int) < (nn : Int)) := by omega
                  replace hB := hid_of hB
                  replace hT2 := hid_of hT2
                  go_wp2_with fail
                  refine (hnum _ _).out.mono ?_
                  rintro e Z ⟨rfl, hZ⟩
                  have hZ := hZ.symm
                  subst hZ
                  go_wp2_with fail
                  go_ret2
                  exact ⟨rfl, hB.out⟩
        · have h4' : (k == 4) = false := by simpa using h4
          clear h4
          by_cases h5 : k = 5
          · subst h5
            go_wp2_with fail
            refine (ncommit _ _ _ _ _ _ _ _).mono ?_
            rintro e X3 ⟨rfl, hb3⟩
            replace hB := hid_of (hB.out.trans (hb3.mono hB.out.size))
            replace hT1 := hid_of (hT1.out.keep hb3)
            replace hT2 := hid_of (hT2.out.keep hb3)
            clear q0 q1 q2 q3 q4 q5 q6 q7 q8 q9 q10 q13 q14 hb3 hA
            go_wp2_with fail
            go_loopw [10] (fun i wr => ∃ q : Nat, q ≤ nw ∧ i = .int .i64 q ∧ Below w.heap.size w wr ∧ Th wr gw (nw * 7) ∧ Th wr gn (nn * 7)) (fun i _ => nw - (intOf i).toNat)
            case atStart => exact ⟨0, Nat.zero_le _, rfl, hB.out, hT1.out, hT2.out⟩
            case round =>
              clear hB hT1 hT2
              rename_i wr
              obtain ⟨q, hq, rfl, hB, hT1, hT2⟩ := hrel
              by_cases hlt : q < nw
              · have hd : decide ((q : Int) < (nw : Int)) = true := by simp; omega
                have hq1 : (q : Int) < (nw : Int) := by omega
                have hq2 : (q : Int) ≤ 1400000000000 := by have := bw.out; omega
                obtain ⟨⟨u0, x0⟩, f0⟩ := hT1.at (show q * 7 + 0 < nw * 7 by omega)
                obtain ⟨⟨u1, x1⟩, f1⟩ := hT1.at (show q * 7 + 1 < nw * 7 by omega)
                obtain ⟨⟨u2, x2⟩, f2⟩ := hT1.at (show q * 7 + 2 < nw * 7 by omega)
                obtain ⟨⟨u3, x3⟩, f3⟩ := hT1.at (show q * 7 + 3 < nw * 7 by omega)
                obtain ⟨⟨u4, x4⟩, f4⟩ := hT1.at (show q * 7 + 4 < nw * 7 by omega)
                obtain ⟨⟨u5, x5⟩, f5⟩ := hT1.at (show q * 7 + 5 < nw * 7 by omega)
                obtain ⟨⟨u6, x6⟩, f6⟩ := hT1.at (show q * 7 + 6 < nw * 7 by omega)
                rw [Nat.add_zero] at x0 f0
                replace hB := hid_of hB
                replace hT1 := hid_of hT1
                replace hT2 := hid_of hT2
                go_wp2_with fail
                go_roundw
                case rel => exact ⟨q + 1, by omega, by simp, below_seven hB.out hg1'.out, th_seven hT1.out, th_seven_far hT2.out hg12.out⟩
                case measure => simp [intOf]; omega
              · have hd : decide ((q : Int) < (nw : Int)) = false := by simp; omega
                have hq1 : ¬ ((q : Int) < (nw : Int)) := by omega
                replace hB := hid_of hB
                replace hT1 := hid_of hT1
                replace hT2 := hid_of hT2
                go_wp2_with fail
                go_loopw [11] (fun i wr => ∃ q : Nat, q ≤ nn ∧ i = .int .i64 q ∧ Below w.heap.size w wr ∧ Th wr gn (nn * 7)) (fun i _ => nn - (intOf i).toNat)
                case atStart => exact ⟨0, Nat.zero_le _, rfl, hB.out, hT2.out⟩
                case round =>
                  clear hB hT1 hT2
                  rename_i wr
                  obtain ⟨q, hq, rfl, hB, hT2⟩ := hrel
                  by_cases hlt : q < nn
                  · have hd : decide ((q : Int) < (nn : Int)) = true := by simp; omega
                    have hq1 : (q : Int) < (nn : Int) := by omega
                    have hq2 : (q : Int) ≤ 1400000000000 := by have := bn.out; omega
                    obtain ⟨⟨u0, x0⟩, f0⟩ := hT2.at (show q * 7 + 0 < nn * 7 by omega)
                    obtain ⟨⟨u1, x1⟩, f1⟩ := hT2.at (show q * 7 + 1 < nn * 7 by omega)
                    obtain ⟨⟨u2, x2⟩, f2⟩ := hT2.at (show q * 7 + 2 < nn * 7 by omega)
                    obtain ⟨⟨u3, x3⟩, f3⟩ := hT2.at (show q * 7 + 3 < nn * 7 by omega)
                    obtain ⟨⟨u4, x4⟩, f4⟩ := hT2.at (show q * 7 + 4 < nn * 7 by omega)
                    obtain ⟨⟨u5, x5⟩, f5⟩ := hT2.at (show q * 7 + 5 < nn * 7 by omega)
                    obtain ⟨⟨u6, x6⟩, f6⟩ := hT2.at (show q * 7 + 6 < nn * 7 by omega)
                    rw [Nat.add_zero] at x0 f0
                    replace hB := hid_of hB
                    replace hT2 := hid_of hT2
                    go_wp2_with fail
                    go_roundw
                    case rel => exact ⟨q + 1, by omega, by simp, below_seven hB.out hg2'.out, th_seven hT2.out⟩
                    case measure => simp [intOf]; omega
                  · have hd : decide ((q : Int) < (nn : Int)) = false := by simp; omega
                    have hq1 : ¬ ((q : Int) < (nn : Int)) := by omega
                    replace hB := hid_of hB
                    replace hT2 := hid_of hT2
                    go_wp2_with fail
                    refine (hnum _ _).out.mono ?_
                    rintro e Z ⟨rfl, hZ⟩
                    have hZ := hZ.symm
                    subst hZ
                    go_wp2_with fail
                    go_ret2
                    exact ⟨rfl, hB.out⟩
          · have h5' : (k == 5) = false := by simpa using h5
            clear h5
            by_cases h6 : k = 6
            · subst h6
              go_wp2_with fail
              refine (nmoved _ _ _ _).mono ?_
              rintro e X3 ⟨rfl, hb3⟩
              replace hB := hid_of (hB.out.trans (hb3.mono hB.out.size))
              replace hT1 := hid_of (hT1.out.keep hb3)
              replace hT2 := hid_of (hT2.out.keep hb3)
              clear q0 q1 q2 q3 q4 q5 q6 q7 q8 q9 q10 q13 q14 hb3 hA
              go_wp2_with fail
              go_loopw [10] (fun i wr => ∃ q : Nat, q ≤ nw ∧ i = .int .i64 q ∧ Below w.heap.size w wr ∧ Th wr gw (nw * 7) ∧ Th wr gn (nn * 7)) (fun i _ => nw - (intOf i).toNat)
              case atStart => exact ⟨0, Nat.zero_le _, rfl, hB.out, hT1.out, hT2.out⟩
              case round =>
                clear hB hT1 hT2
                rename_i wr
                obtain ⟨q, hq, rfl, hB, hT1, hT2⟩ := hrel
                by_cases hlt : q < nw
                · have hd : decide ((q : Int) < (nw : Int)) = true := by simp; omega
                  have hq1 : (q : Int) < (nw : Int) := by omega
                  have hq2 : (q : Int) ≤ 1400000000000 := by have := bw.out; omega
                  obtain ⟨⟨u0, x0⟩, f0⟩ := hT1.at (show q * 7 + 0 < nw * 7 by omega)
                  obtain ⟨⟨u1, x1⟩, f1⟩ := hT1.at (show q * 7 + 1 < nw * 7 by omega)
                  obtain ⟨⟨u2, x2⟩, f2⟩ := hT1.at (show q * 7 + 2 < nw * 7 by omega)
                  obtain ⟨⟨u3, x3⟩, f3⟩ := hT1.at (show q * 7 + 3 < nw * 7 by omega)
                  obtain ⟨⟨u4, x4⟩, f4⟩ := hT1.at (show q * 7 + 4 < nw * 7 by omega)
                  obtain ⟨⟨u5, x5⟩, f5⟩ := hT1.at (show q * 7 + 5 < nw * 7 by omega)
                  obtain ⟨⟨u6, x6⟩, f6⟩ := hT1.at (show q * 7 + 6 < nw * 7 by omega)
                  rw [Nat.add_zero] at x0 f0
                  replace hB := hid_of hB
                  replace hT1 := hid_of hT1
                  replace hT2 := hid_of hT2
                  go_wp2_with fail
                  go_roundw
                  case rel => exact ⟨q + 1, by omega, by simp, below_seven hB.out hg1'.out, th_seven hT1.out, th_seven_far hT2.out hg12.out⟩
                  case measure => simp [intOf]; omega
                · have hd : decide ((q : Int) < (nw : Int)) = false := by simp; omega
                  have hq1 : ¬ ((q : Int) < (nw : Int)) := by omega
                  replace hB := hid_of hB
                  replace hT1 := hid_of hT1
                  replace hT2 := hid_of hT2
                  go_wp2_with fail
                  go_loopw [11] (fun i wr => ∃ q : Nat, q ≤ nn ∧ i = .int .i64 q ∧ Below w.heap.size w wr ∧ Th wr gn (nn * 7)) (fun i _ => nn - (intOf i).toNat)
                  case atStart => exact ⟨0, Nat.zero_le _, rfl, hB.out, hT2.out⟩
                  case round =>
                    clear hB hT1 hT2
                    rename_i wr
                    obtain ⟨q, hq, rfl, hB, hT2⟩ := hrel
                    by_cases hlt : q < nn
                    · have hd : decide ((q : Int) < (nn : Int)) = true := by simp; omega
                      have hq1 : (q : Int) < (nn : Int) := by omega
                      have hq2 : (q : Int) ≤ 1400000000000 := by have := bn.out; omega
                      obtain ⟨⟨u0, x0⟩, f0⟩ := hT2.at (show q * 7 + 0 < nn * 7 by omega)
                      obtain ⟨⟨u1, x1⟩, f1⟩ := hT2.at (show q * 7 + 1 < nn * 7 by omega)
                      obtain ⟨⟨u2, x2⟩, f2⟩ := hT2.at (show q * 7 + 2 < nn * 7 by omega)
                      obtain ⟨⟨u3, x3⟩, f3⟩ := hT2.at (show q * 7 + 3 < nn * 7 by omega)
                      obtain ⟨⟨u4, x4⟩, f4⟩ := hT2.at (show q * 7 + 4 < nn * 7 by omega)
                      obtain ⟨⟨u5, x5⟩, f5⟩ := hT2.at (show q * 7 + 5 < nn * 7 by omega)
                      obtain ⟨⟨u6, x6⟩, f6⟩ := hT2.at (show q * 7 + 6 < nn * 7 by omega)
                      rw [Nat.add_zero] at x0 f0
                      replace hB := hid_of hB
                      replace hT2 := hid_of hT2
                      go_wp2_with fail
                      go_roundw
                      case rel => exact ⟨q + 1, by omega, by simp, below_seven hB.out hg2'.out, th_seven hT2.out⟩
                      case measure => simp [intOf]; omega
                    · have hd : decide ((q : Int) < (nn : Int)) = false := by simp; omega
                      have hq1 : ¬ ((q : Int) < (nn : Int)) := by omega
                      replace hB := hid_of hB
                      replace hT2 := hid_of hT2
                      go_wp2_with fail
                      refine (hnum _ _).out.mono ?_
                      rintro e Z ⟨rfl, hZ⟩
                      have hZ := hZ.symm
                      subst hZ
                      go_wp2_with fail
                      go_ret2
                      exact ⟨rfl, hB.out⟩
            · have h6' : (k == 6) = false := by simpa using h6
              clear h6
              go_wp2_with fail
              clear q0 q1 q2 q3 q4 q5 q6 q7 q8 q9 q10 q13 q14 hA
              go_wp2_with fail
              go_loopw [10] (fun i wr => ∃ q : Nat, q ≤ nw ∧ i = .int .i64 q ∧ Below w.heap.size w wr ∧ Th wr gw (nw * 7) ∧ Th wr gn (nn * 7)) (fun i _ => nw - (intOf i).toNat)
              case atStart => exact ⟨0, Nat.zero_le _, rfl, hB.out, hT1.out, hT2.out⟩
              case round =>
                clear hB hT1 hT2
                rename_i wr
                obtain ⟨q, hq, rfl, hB, hT1, hT2⟩ := hrel
                by_cases hlt : q < nw
                · have hd : decide ((q : Int) < (nw : Int)) = true := by simp; omega
                  have hq1 : (q : Int) < (nw : Int) := by omega
                  have hq2 : (q : Int) ≤ 1400000000000 := by have := bw.out; omega
                  obtain ⟨⟨u0, x0⟩, f0⟩ := hT1.at (show q * 7 + 0 < nw * 7 by omega)
                  obtain ⟨⟨u1, x1⟩, f1⟩ := hT1.at (show q * 7 + 1 < nw * 7 by omega)
                  obtain ⟨⟨u2, x2⟩, f2⟩ := hT1.at (show q * 7 + 2 < nw * 7 by omega)
                  obtain ⟨⟨u3, x3⟩, f3⟩ := hT1.at (show q * 7 + 3 < nw * 7 by omega)
                  obtain ⟨⟨u4, x4⟩, f4⟩ := hT1.at (show q * 7 + 4 < nw * 7 by omega)
                  obtain ⟨⟨u5, x5⟩, f5⟩ := hT1.at (show q * 7 + 5 < nw * 7 by omega)
                  obtain ⟨⟨u6, x6⟩, f6⟩ := hT1.at (show q * 7 + 6 < nw * 7 by omega)
                  rw [Nat.add_zero] at x0 f0
                  replace hB := hid_of hB
                  replace hT1 := hid_of hT1
                  replace hT2 := hid_of hT2
                  go_wp2_with fail
                  go_roundw
                  case rel => exact ⟨q + 1, by omega, by simp, below_seven hB.out hg1'.out, th_seven hT1.out, th_seven_far hT2.out hg12.out⟩
                  case measure => simp [intOf]; omega
                · have hd : decide ((q : Int) < (nw : Int)) = false := by simp; omega
                  have hq1 : ¬ ((q : Int) < (nw : Int)) := by omega
                  replace hB := hid_of hB
                  replace hT1 := hid_of hT1
                  replace hT2 := hid_of hT2
                  go_wp2_with fail
                  go_loopw [11] (fun i wr => ∃ q : Nat, q ≤ nn ∧ i = .int .i64 q ∧ Below w.heap.size w wr ∧ Th wr gn (nn * 7)) (fun i _ => nn - (intOf i).toNat)
                  case atStart => exact ⟨0, Nat.zero_le _, rfl, hB.out, hT2.out⟩
                  case round =>
                    clear hB hT1 hT2
                    rename_i wr
                    obtain ⟨q, hq, rfl, hB, hT2⟩ := hrel
                    by_cases hlt : q < nn
                    · have hd : decide ((q : Int) < (nn : Int)) = true := by simp; omega
                      have hq1 : (q : Int) < (nn : Int) := by omega
                      have hq2 : (q : Int) ≤ 1400000000000 := by have := bn.out; omega
                      obtain ⟨⟨u0, x0⟩, f0⟩ := hT2.at (show q * 7 + 0 < nn * 7 by omega)
                      obtain ⟨⟨u1, x1⟩, f1⟩ := hT2.at (show q * 7 + 1 < nn * 7 by omega)
                      obtain ⟨⟨u2, x2⟩, f2⟩ := hT2.at (show q * 7 + 2 < nn * 7 by omega)
                      obtain ⟨⟨u3, x3⟩, f3⟩ := hT2.at (show q * 7 + 3 < nn * 7 by omega)
                      obtain ⟨⟨u4, x4⟩, f4⟩ := hT2.at (show q * 7 + 4 < nn * 7 by omega)
                      obtain ⟨⟨u5, x5⟩, f5⟩ := hT2.at (show q * 7 + 5 < nn * 7 by omega)
                      obtain ⟨⟨u6, x6⟩, f6⟩ := hT2.at (show q * 7 + 6 < nn * 7 by omega)
                      rw [Nat.add_zero] at x0 f0
                      replace hB := hid_of hB
                      replace hT2 := hid_of hT2
                      go_wp2_with fail
                      go_roundw
                      case rel => exact ⟨q + 1, by omega, by simp, below_seven hB.out hg2'.out, th_seven hT2.out⟩
                      case measure => simp [intOf]; omega
                    · have hd : decide ((q : Int) < (nn : Int)) = false := by simp; omega
                      have hq1 : ¬ ((q : Int) < (nn : Int)) := by omega
                      replace hB := hid_of hB
                      replace hT2 := hid_of hT2
                      go_wp2_with fail
                      refine (hnum _ _).out.mono ?_
                      rintro e Z ⟨rfl, hZ⟩
                      have hZ := hZ.symm
                      subst hZ
                      go_wp2_with fail
                      go_ret2
                      exact ⟨rfl, hB.out⟩

end Go.Proofs.YtdghkmgkmfnjjaaGreatDoor
