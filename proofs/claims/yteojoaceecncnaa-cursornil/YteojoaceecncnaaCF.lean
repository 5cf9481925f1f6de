import Derived.Test.YteojoaceecncnaaCE
/-! cursor: the order of three items that a sort turns round. -/
namespace Go.Proofs.Yteojoaceecncnaa
open Go Go.RowKit

def nrow (w : World) (b q : Nat) : Prop := Row3 w b 0 (if 1 < q then 1 else 0) (if 2 < q then 2 else 0)
theorem nrow.next {w : World} {b q : Nat} (h : nrow w b q) (hq : q < 3) : nrow (w.setCell ⟨b, q, none⟩ (.int .i64 q)) b (q + 1) := by
  unfold nrow Row3 at *
  rcases q with _ | _ | _ | q
  · simp [World.setCell, Array.getElem?_modify, h]
  · simp [World.setCell, Array.getElem?_modify, h]
  · simp [World.setCell, Array.getElem?_modify, h]
  · omega
theorem nrow.there {w : World} {b q j : Nat} (h : nrow w b q) (hj : j < 3) : (∃ x, w.cell? ⟨b, j, none⟩ = some x) ∧ w.frozen? ⟨b, j, none⟩ = false := by
  unfold nrow Row3 at h
  rcases j with _ | _ | _ | j
  · simp [World.cell?, World.frozen?, h]
  · simp [World.cell?, World.frozen?, h]
  · simp [World.cell?, World.frozen?, h]
  · omega
theorem nrow.zero {w : World} : nrow (w.alloc (.cells #[.int .i64 0, .int .i64 0, .int .i64 0] 3)) w.heap.size 0 := by
  unfold nrow Row3
  rw [heap_alloc_new]
  simp
theorem cmps_any (rb pb : Nat) (kk : Nat → ByteArray) (w W : World) (hp : Pl3 w pb kk 3) (hne : pb ≠ rb) (hO : Oth rb w W) : Cmp3 pb (cmpL 1 0 (kk 1) (kk 0)) (cmpL 2 0 (kk 2) (kk 0)) (cmpL 2 1 (kk 2) (kk 1)) W := by
  have hp' : Pl3 W pb kk 3 := (hO.block _ (Array.getElem?_eq_some_iff.1 hp).1 (fun e => hne (by cases e; rfl))).trans hp
  refine ⟨?_, ?_, ?_⟩
  · exact lcompare_any pb 3 3 1 0 _ _ W (by decide) (by decide) (hp'.all (j := 1) (by decide)).1 (hp'.all (j := 1) (by decide)).2 (hp'.all (j := 0) (by decide)).1 (hp'.all (j := 0) (by decide)).2
  · exact lcompare_any pb 3 3 2 0 _ _ W (by decide) (by decide) (hp'.all (j := 2) (by decide)).1 (hp'.all (j := 2) (by decide)).2 (hp'.all (j := 0) (by decide)).1 (hp'.all (j := 0) (by decide)).2
  · exact lcompare_any pb 3 3 2 1 _ _ W (by decide) (by decide) (hp'.all (j := 2) (by decide)).1 (hp'.all (j := 2) (by decide)).2 (hp'.all (j := 1) (by decide)).1 (hp'.all (j := 1) (by decide)).2
/-- The three keys stand just the other way round. -/
structure Turned (kk : Nat → ByteArray) : Prop where
  ba : decide (cmpL 1 0 (kk 1) (kk 0) < 0) = true
  ca : decide (cmpL 2 0 (kk 2) (kk 0) < 0) = true
  cb : decide (cmpL 2 1 (kk 2) (kk 1) < 0) = true
  sz : ∀ i, (kk i).size ≤ 9223372036854775806
set_option maxHeartbeats 4000000 in
theorem order3 (pb : Nat) (kk : Nat → ByteArray) (w : World) (ht : Turned kk) (hp : Pl3 w pb kk 3) :
    Calls Try.prog 22 #[.slice (some ⟨pb, 0, none⟩) 3 3] w fun e w' => e = .returned (.slice (some ⟨w.heap.size, 0, none⟩) 3 3) ∧ Below w.heap.size w w' ∧ Row3 w' w.heap.size 2 1 0 := by
  have hmk := make_n3 w
  replace ht := hid_of ht
  replace hp := hid_of hp
  have hpl := hid_of (Array.getElem?_eq_some_iff.1 hp.out).1
  go_enter Try.func22, Try.ntmps22
  go_wp2_with fail
  clear hmk
  have hP0 := hid_of (nrow.zero (w := w))
  have hB0 := hid_of ((Below.refl _ w).alloc (Nat.le_refl _) (.cells #[.int .i64 0, .int .i64 0, .int .i64 0] 3))
  go_loopw [10] (fun i wr => ∃ q : Nat, q ≤ 3 ∧ i = .int .i64 q ∧ Below w.heap.size w wr ∧ nrow wr w.heap.size q) (fun i _ => 3 - (intOf i).toNat)
  case atStart => exact ⟨0, Nat.zero_le _, rfl, hB0.out, hP0.out⟩
  case round =>
    clear hP0 hB0
    rename_i wr
    obtain ⟨q, hq, rfl, hB, hP⟩ := hrel
    replace hB := hid_of hB
    replace hP := hid_of hP
    by_cases hlt : q < 3
    · have hd1 : decide ((q : Int) < 3) = true := by simp; omega
      obtain ⟨⟨x, c0⟩, f0⟩ := hP.out.there hlt
      go_wp2_with fail
      go_roundw
      case rel => exact ⟨q + 1, by omega, by simp, below_set hB.out (Nat.le_refl _), hP.out.next hlt⟩
      case measure => simp [intOf]; omega
    · obtain rfl : q = 3 := by omega
      have hR : Row3 wr w.heap.size 0 1 2 := hP.out
      have hsr := hid_of (sort3 w.heap.size pb _ _ _ wr ht.out.ba ht.out.ca ht.out.cb hR (fun W hO => cmps_any w.heap.size pb kk wr W ((hB.out.block _ hpl.out).trans hp.out) (by have := hpl.out; omega) hO))
      clear hR hP
      go_wp2_with fail
      refine hsr.out.mono ?_
      rintro e X1 ⟨rfl, hO, hR⟩
      replace hO := hid_of hO
      replace hR := hid_of hR
      clear hsr
      go_wp2_with fail
      go_ret
      exact ⟨rfl, ⟨hO.out.os.trans hB.out.os, hO.out.tape.trans hB.out.tape, hO.out.output.trans hB.out.output, Nat.le_trans hB.out.size hO.out.size, fun k hk => (hO.out.block k (Nat.lt_of_lt_of_le hk hB.out.size) (fun e => by cases e; omega)).trans (hB.out.block k hk)⟩, hR.out⟩
end Go.Proofs.Yteojoaceecncnaa
