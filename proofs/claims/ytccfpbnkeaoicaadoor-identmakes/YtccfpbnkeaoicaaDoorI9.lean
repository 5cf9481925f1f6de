import Derived.Test.YtccfpbnkeaoicaaDoorI8
import Derived.Deep.RegionHeld3
import Derived.Shelf.RegionOpen
/-! ident: makers. -/
namespace Go.Proofs.YtccfpbnkeaoicaaDoor
open Go Go.RowKit
def last64 : Nat := 18446744073709551615
def counterN (s : ByteArray) (seed : Nat) : Nat := unmixN (readN (tailG s)) ^^^ mixN seed
def madeOk (s : ByteArray) (seed : Nat) : Bool := begG s && areHex (tailG s) && decide (counterN s seed ≠ last64)
def madeN (s : ByteArray) (seed : Nat) : Nat := if madeOk s seed then counterN s seed else 0
theorem readN_lt (s : ByteArray) : readN s < M64 := by
  unfold readN
  split
  · exact read_lt s 16
  · decide
set_option maxHeartbeats 2000000 in
theorem made_any (s : ByteArray) (seed : Nat) (hs : s.size ≤ 9223372036854775806) (w : World) (hR : RoundsAt w) : Calls Tryd.prog 13 #[.string s, .int .u64 seed] w fun e w' => e = .returned (.tuple #[.int .u64 (madeN s seed), .bool (madeOk s seed)]) ∧ Below w.heap.size w w' := by
  have h1 := hid_of (cutG s hs w)
  have h2 := hid_of (readN_any (tailG s) w)
  have h3 := hid_of (unmix_any (readN (tailG s)) (readN_lt _) w hR)
  have hx := hid_of (bx (unmix_lt (readN (tailG s))) (mix_lt seed))
  replace hR := hid_of hR
  have hb := nat_beq (counterN s seed) last64
  rw [show ((last64 : Nat) : Int) = 18446744073709551615 from rfl] at hb
  have hok : Hid (madeOk s seed = (begG s && areHex (tailG s) && decide (counterN s seed ≠ last64))) := rfl
  have hN : Hid (madeN s seed = if madeOk s seed then counterN s seed else 0) := rfl
  have hC : Hid (unmixN (readN (tailG s)) ^^^ mixN seed = counterN s seed) := rfl
  go_enter Tryd.func13, Tryd.ntmps13
  go_wp2_with fail
  refine h1.out.mono ?_
  rintro e w' ⟨rfl, rfl⟩
  go_wp2_with fail
  refine h2.out.mono ?_
  rintro e w' ⟨rfl, rfl⟩
  go_wp2_with fail
  refine h3.out.mono ?_
  rintro e w1 ⟨rfl, HB⟩
  have h4 := hid_of (mix_any seed w1 (hR.out.keep HB))
  go_wp2_with fail
  refine h4.out.mono ?_
  rintro e w2 ⟨rfl, hb2⟩
  replace HB := HB.trans (hb2.mono HB.size)
  clear h1 h2 h3 h4 hb2 hR
  have hx' : bits .xor .u64 ((unmixN (readN (tailG s)) : Nat) : Int) ((mixN seed : Nat) : Int) = ((counterN s seed : Nat) : Int) := hx.out
  clear hx hC
  cases h1b : begG s
  · have e1 : madeOk s seed = false := by rw [hok.out, h1b]; rfl
    have e2 : madeN s seed = 0 := by rw [hN.out, e1]; rfl
    clear hok hN
    go_wp2_with fail
    go_ret2
    exact ⟨by rw [e1, e2]; rfl, HB⟩
  · cases h2b : areHex (tailG s)
    · have e1 : madeOk s seed = false := by rw [hok.out, h1b, h2b]; rfl
      have e2 : madeN s seed = 0 := by rw [hN.out, e1]; rfl
      clear hok hN
      go_wp2_with fail
      go_ret2
      exact ⟨by rw [e1, e2]; rfl, HB⟩
    · by_cases hc : counterN s seed = last64
      · have e1 : madeOk s seed = false := by rw [hok.out, h1b, h2b, hc]; rfl
        have e2 : madeN s seed = 0 := by rw [hN.out, e1]; rfl
        have hb' : (((counterN s seed : Nat) : Int) == 18446744073709551615) = true := by rw [hb, hc]; rfl
        clear hok hN hb hc
        go_wp2_with fail
        go_ret2
        exact ⟨by rw [e1, e2]; rfl, HB⟩
      · have e1 : madeOk s seed = true := by rw [hok.out, h1b, h2b]; simpa using hc
        have e2 : madeN s seed = counterN s seed := by rw [hN.out, if_pos e1]
        have hb' : (((counterN s seed : Nat) : Int) == 18446744073709551615) = false := by rw [hb]; simpa using hc
        clear hok hN hb hc
        go_wp2_with fail
        go_ret2
        exact ⟨by rw [e1, e2]; rfl, HB⟩
/-- A maker in memory. -/
def MakerAt (w : World) (b seed counter : Nat) : Prop := w.heap[b]? = some (.cells #[.int .u64 (mixN seed : Nat), .int .u64 counter] 59 (0, 0))
set_option maxHeartbeats 2000000 in
theorem newMaker_any (seed counter : Nat) (w : World) (hR : RoundsAt w) : Calls Tryd.prog 9 #[.int .u64 seed, .int .u64 counter] w fun e w' => Below w.heap.size w w' ∧ ∃ b, w.heap.size ≤ b ∧ e = .returned (.pointer (some ⟨b, 0, none⟩)) ∧ MakerAt w' b seed counter := by
  have h4 := hid_of (mix_any seed w hR)
  go_enter Tryd.func9, Tryd.ntmps9
  go_wp2_with fail
  refine h4.out.mono ?_
  rintro e w2 ⟨rfl, HB⟩
  go_wp2_with fail
  go_ret
  refine ⟨HB.alloc HB.size _, w2.heap.size, HB.size, rfl, ?_⟩
  exact heap_alloc_new _ _
theorem next_nil (w : World) : Calls Tryd.prog 10 #[.pointer none] w fun e w' => e = .returned (.tuple #[.string ⟨#[]⟩, .int .i64 80]) ∧ w' = w := by
  go_enter Tryd.func10, Tryd.ntmps10
  go_wp2_with fail
  go_ret2
  exact ⟨rfl, rfl⟩
set_option maxHeartbeats 2000000 in
theorem next_last (b seed : Nat) (w : World) (h : MakerAt w b seed last64) : Calls Tryd.prog 10 #[.pointer (some ⟨b, 0, none⟩)] w fun e w' => e = .returned (.tuple #[.string ⟨#[]⟩, .int .i64 80]) ∧ w' = w := by
  have c1 : w.cell? ⟨b, 1, none⟩ = some (.int .u64 18446744073709551615) := by
    unfold MakerAt at h
    simp [World.cell?, h, last64]
  go_enter Tryd.func10, Tryd.ntmps10
  go_wp2_with fail
  go_ret2
  exact ⟨rfl, rfl⟩
/-- The id of a seed and a counter. -/
def madeText (seed counter : Nat) : ByteArray := ⟨#[103]⟩ ++ ⟨(hexL (mixN (mixN seed ^^^ counter))).toArray⟩
set_option maxHeartbeats 2000000 in
theorem next_any (b seed counter : Nat) (hc : counter < last64) (w : World) (hR : RoundsAt w) (h : MakerAt w b seed counter) : Calls Tryd.prog 10 #[.pointer (some ⟨b, 0, none⟩)] w fun e w' => e = .returned (.tuple #[.string (madeText seed counter), .int .i64 0]) ∧ Below b w w' ∧ MakerAt w' b seed (counter + 1) := by
  have c0 : w.cell? ⟨b, 0, none⟩ = some (.int .u64 (mixN seed : Nat)) := by
    unfold MakerAt at h
    simp [World.cell?, h]
  have c1 : w.cell? ⟨b, 1, none⟩ = some (.int .u64 counter) := by
    unfold MakerAt at h
    simp [World.cell?, h]
  have hb := nat_beq counter last64
  have hb' : ((counter : Int) == 18446744073709551615) = false := by
    rw [show (18446744073709551615 : Int) = ((last64 : Nat) : Int) from rfl, hb]
    simp; omega
  clear hb
  have hc64 : counter < M64 := Nat.lt_trans hc (by decide)
  have hxx := bx (mix_lt seed) hc64
  have hmix := hid_of (mix_any (mixN seed ^^^ counter) w.drew (hR.keep (below_drew (Below.refl _ w))))
  have hwr := hid_of (written_any (mixN (mixN seed ^^^ counter)) (mix_lt _))
  have hwrap := hid_of (wrap_small (a := counter + 1) (by unfold last64 at hc; unfold M64; omega))
  have hbs : Hid (b < w.heap.size) := (Array.getElem?_eq_some_iff.1 h).1
  replace h := hid_of h
  have htx : Hid (madeText seed counter = ⟨#[103]⟩ ++ ⟨(hexL (mixN (mixN seed ^^^ counter))).toArray⟩) := rfl
  have htl : (hexL (mixN (mixN seed ^^^ counter))).length = 16 := by simp [hexL]
  have hts : (⟨(hexL (mixN (mixN seed ^^^ counter))).toArray⟩ : ByteArray).size = 16 := by rw [← htl]; rfl
  clear hR hc hc64 htl
  generalize mixN (mixN seed ^^^ counter) = X at *
  generalize mixN seed ^^^ counter = Y at *
  go_enter Tryd.func10, Tryd.ntmps10
  go_wp2_with fail
  go_region_held3 (fun W => W.cell? ⟨b, 0, none⟩ = some (.int .u64 (mixN seed : Nat)) ∧ W.cell? ⟨b, 1, none⟩ = some (.int .u64 counter)) (go_keep) (first
    | (go_at_call 16; refine hmix.out.mono ?_; clear hmix; rintro e w5 ⟨rfl, hb5⟩; have hb5' : Below w.heap.size w w5 := (below_drew (Below.refl _ w)).trans hb5; clear hb5; have k0 := stay hb5' c0; have k1 := stay hb5' c1)
    | (go_at_call 33; refine (hwr.out _).mono ?_; clear hwr; rintro e w6 ⟨rfl, hb6⟩; have HB : Below w.heap.size w w6 := hb5'.trans (hb6.mono hb5'.size); clear hb6 hb5' k0 k1; have k0 := stay HB c0; have k1 := stay HB c1))
  have hM : w6.heap[b]? = _ := (HB.block _ hbs.out).trans h.out
  have f1 : w6.frozen? ⟨b, 1, none⟩ = false := by simp [World.frozen?, hM]
  replace hM := hid_of hM
  clear k0 c0 c1 hts hb'
  go_wp2_with fail
  go_ret2
  refine ⟨by rw [htx.out]; rfl, (HB.mono (Nat.le_of_lt hbs.out)).setCell (Nat.le_refl _) _, ?_⟩
  have hw : IntKind.u64.wrap ((counter : Int) + 1) = ((counter + 1 : Nat) : Int) := by
    rw [show ((counter : Int) + 1) = ((counter + 1 : Nat) : Int) by simp]
    exact hwrap.out
  unfold MakerAt
  rw [hw]
  simp [World.setCell, Array.getElem?_modify, hM.out]
end Go.Proofs.YtccfpbnkeaoicaaDoor
