import Derived.Test.YtccfpbnkeaoicaaDoorN9
/-! The law IdentMakes. -/
namespace Go.Proofs.YtccfpbnkeaoicaaDoor
open Go Go.RowKit
theorem RMakerAt.keep {w w' : World} {b seed c : Nat} (h : RMakerAt w b seed c) (hb : Below w.heap.size w w') : RMakerAt w' b seed c := (hb.block _ (Array.getElem?_eq_some_iff.1 h).1).trans h
theorem counter_any2 (b seed counter : Nat) (w : World) (h : MakerAt w b seed counter) : ∀ n, Calls Tryd.prog 15 #[.pointer (some ⟨b, 0, none⟩)] (w.drewN n) fun e w' => e = .returned (.int .u64 counter) ∧ w' = w.drewN n := fun n => counter_any b seed counter (w.drewN n) h
/-- Two makers that go along. -/
structure Pair (w0 : World) (b1 b2 seed c : Nat) (w : World) : Prop where
  below : Below w0.heap.size w0 w
  one : MakerAt w b1 seed c
  two : RMakerAt w b2 seed c
  lo : w0.heap.size ≤ b1
  lt : b1 < b2
  le : c < M64
theorem Pair.has {w0 w : World} {b1 b2 seed c : Nat} (h : Pair w0 b1 b2 seed c w) : b2 < w.heap.size := (Array.getElem?_eq_some_iff.1 h.two).1
theorem Pair.keep {w0 w w' : World} {b1 b2 seed c : Nat} (h : Pair w0 b1 b2 seed c w) (hb : Below w.heap.size w w') : Pair w0 b1 b2 seed c w' := ⟨h.below.trans (hb.mono h.below.size), h.one.keep hb, h.two.keep hb, h.lo, h.lt, h.le⟩
theorem Pair.drewN {w0 w : World} {b1 b2 seed c : Nat} (h : Pair w0 b1 b2 seed c w) (n : Nat) : Pair w0 b1 b2 seed c (w.drewN n) := h.keep (below_drewN (Below.refl _ w) n)
set_option maxHeartbeats 4000000 in
theorem makes_true (seed counter : Nat) (times : Int) (text : ByteArray) (_hs : seed < M64) (hc : counter < M64) (ht : text.size ≤ 140737488355328) (w : World) (hR : RoundsAt w) : Calls Tryd.prog 7 #[.agg #[.int .u64 (seed : Nat), .int .u64 (counter : Nat), .int .i64 times, .string text]] w fun e w' => e = .returned (.bool true) ∧ Below w.heap.size w w' := by
  replace hR := hid_of hR
  have hnm := hid_of (newMaker_any seed counter)
  go_enter Tryd.func7, Tryd.ntmps7
  go_wp2_with fail
  go_quiet (fail)
  go_wp2_with fail
  have HB := below_one (Below.refl _ w) (Obj.cells #[.int .u64 (seed : Nat), .int .u64 (counter : Nat), .int .i64 times, .string text] 45) nq
  generalize World.drewN (World.alloc w (Obj.cells #[.int .u64 (seed : Nat), .int .u64 (counter : Nat), .int .i64 times, .string text] 45)) nq = w1 at *
  clear nq
  refine (hnm.out w1 (hR.out.keep HB)).mono ?_
  rintro e w2 ⟨hb2, b1, hb1, rfl, hM⟩
  clear hnm
  have hP : Hid (Pair w b1 w2.heap.size seed counter (w2.alloc (Obj.cells #[.int .u64 (seed : Nat), .int .u64 (counter : Nat)] 48))) := by
    have hb3 : Below w2.heap.size w2 (w2.alloc (Obj.cells #[.int .u64 (seed : Nat), .int .u64 (counter : Nat)] 48)) := (Below.refl _ w2).alloc (Nat.le_refl _) _
    have HB2 := HB.trans (hb2.mono HB.size)
    exact ⟨HB2.trans (hb3.mono HB2.size), hM.keep hb3, heap_alloc_new _ _, Nat.le_trans HB.size hb1, (Array.getElem?_eq_some_iff.1 hM).1, hc⟩
  clear HB hb2 hb1 hM hc
  go_wp2_with fail
  generalize hb2 : w2.heap.size = b2 at *
  generalize w2.alloc (Obj.cells #[.int .u64 (seed : Nat), .int .u64 (counter : Nat)] 48) = w3 at *
  clear hb2
  go_loopw [9] (fun i wr => ∃ q c : Nat, q ≤ 100 ∧ i = .int .i64 q ∧ Hid (Pair w b1 b2 seed c wr)) (fun i _ => 100 - (intOf i).toNat)
  case atStart => exact ⟨0, counter, by decide, rfl, hP⟩
  case round =>
    obtain ⟨q, c, hq, rfl, hP⟩ := hrel
    by_cases hgo : (q : Int) < times ∧ q < 100
    · have d1 : decide ((q : Int) < times) = true := by simpa using hgo.1
      have d2 : decide ((q : Int) < 100) = true := by simp; omega
      have hp := hid_of (once_p b1 seed c hP.out.le wr (hR.out.keep hP.out.below) hP.out.one)
      go_wp2_with fail
      refine hp.out.mono ?_
      rintro e w4 ⟨rfl, hb4, hM4, hf4⟩
      have hR4 : RMakerAt w4 b2 seed c := (hf4 b2 hP.out.has (Nat.ne_of_gt hP.out.lt)).trans hP.out.two
      have hB4 : Hid (Below w.heap.size w w4) := hP.out.below.trans (hb4.mono hP.out.lo)
      have hr := hid_of (once_r b2 seed c hP.out.le w4 hR4)
      replace hM4 := hid_of hM4
      clear hp hf4 hb4 hR4
      go_wp2_with fail
      refine hr.out.mono ?_
      rintro e w5 ⟨rfl, hb5, hR5⟩
      have hP5 : Hid (Pair w b1 b2 seed (stepC c) w5) := ⟨hB4.out.trans (hb5.mono (Nat.le_trans hP.out.lo (Nat.le_of_lt hP.out.lt))), (hb5.block b1 hP.out.lt).trans hM4.out, hR5, hP.out.lo, hP.out.lt, step_lt hP.out.le⟩
      clear hr hb5 hR5 hM4 hB4 hP
      have hct := hid_of (counter_any2 b1 seed (stepC c) w5 hP5.out.one)
      have c1 : w5.cell? ⟨b2, 1, none⟩ = some (.int .u64 (stepC c : Nat)) := by
        have := hP5.out.two
        unfold RMakerAt at this
        simp [World.cell?, this]
      generalize nextT seed c = Tx at *
      generalize nextE c = Er at *
      generalize stepC c = D at *
      go_wp2_with fail
      go_quiet ((first | (go_at_call 11; exact Calls.quiet_of_same (num_any _ _)) | (go_at_call 15; exact Calls.quiet_of_same (hct.out _))))
      replace hP5 := hid_of (hP5.out.drewN nq)
      go_wp2_with fail
      go_roundw
      case rel => exact ⟨q + 1, D, by omega, by simp, hP5⟩
      case measure => simp [intOf]; omega
    · have hd : decide ((q : Int) < times) = false ∨ (decide ((q : Int) < times) = true ∧ decide ((q : Int) < 100) = false) := by
        simp
        omega
      have hmd := hid_of (made_any text seed (by omega) wr (hR.out.keep hP.out.below))
      have hrm := hid_of (rmade_any text seed (by omega))
      have hlv := hid_of (fun w h => live_true w h)
      generalize madeN text seed = N at *
      generalize madeOk text seed = O at *
      clear hgo
      rcases hd with d1 | ⟨d1, d2⟩
      all_goals
        go_wp2_with fail
        refine hmd.out.mono ?_
        rintro e w4 ⟨rfl, hb4⟩
        replace hP := hid_of (hP.out.keep hb4)
        clear hb4 hmd
        go_wp2_with fail
        refine (hrm.out _).mono ?_
        rintro e w5 ⟨rfl, m, rfl⟩
        replace hP := hid_of (hP.out.drewN m)
        generalize w4.drewN m = w5 at *
        clear hrm
        have hct := hid_of (counter_any2 b1 seed c w5 hP.out.one)
        have c1 : w5.cell? ⟨b2, 1, none⟩ = some (.int .u64 (c : Nat)) := by
          have := hP.out.two
          unfold RMakerAt at this
          simp [World.cell?, this]
        have hc5 := hid_of (counter_any b1 seed c w5.drew (show MakerAt w5.drew b1 seed c from hP.out.one))
        have hl5 := hid_of (hlv.out w5.drew (hR.out.keep (below_drew hP.out.below)))
        clear hct hlv
        go_wp2_with fail
        go_region_held3 (fun W => W.cell? ⟨b2, 1, none⟩ = some (.int .u64 (c : Nat))) (go_keep) (first
          | (go_at_call 15; refine hc5.out.mono ?_; clear hc5; rintro e w6 ⟨rfl, rfl⟩)
          | (go_at_call 12; refine hl5.out.mono ?_; clear hl5; rintro e w7 ⟨rfl, hb7⟩; have c7 := stay hb7 (show w5.drew.cell? ⟨b2, 1, none⟩ = some (.int .u64 (c : Nat)) from c1)))
        go_wp2_with fail
        go_ret
        exact ⟨rfl, (below_drew hP.out.below).trans (hb7.mono (below_drew hP.out.below).size)⟩
end Go.Proofs.YtccfpbnkeaoicaaDoor
