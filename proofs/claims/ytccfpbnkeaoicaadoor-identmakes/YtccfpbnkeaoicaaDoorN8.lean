import Derived.Test.YtccfpbnkeaoicaaDoorN7
import Derived.Test.YtccfpbnkeaoicaaDoorID
/-! Makers of both sides, asked once. -/
namespace Go.Proofs.YtccfpbnkeaoicaaDoor
open Go Go.RowKit
set_option maxHeartbeats 2000000 in
theorem next_frame (b seed counter : Nat) (hc : counter < last64) (w : World) (hR : RoundsAt w) (h : MakerAt w b seed counter) : Calls Tryd.prog 10 #[.pointer (some ⟨b, 0, none⟩)] w fun e w' => e = .returned (.tuple #[.string (madeText seed counter), .int .i64 0]) ∧ Below b w w' ∧ MakerAt w' b seed (counter + 1) ∧ ∀ k, k < w.heap.size → k ≠ b → w'.heap[k]? = w.heap[k]? := by
  have c0 : w.cell? ⟨b, 0, none⟩ = some (.int .u64 (mixN seed : Nat)) := by
    unfold MakerAt at h
    simp [World.cell?, h]
  have c1 : w.cell? ⟨b, 1, none⟩ = some (.int .u64 counter) := by
    unfold MakerAt at h
    simp [World.cell?, h]
  have hb := nat_beq counter last64
  have hb' : ((counter : Int) == 18446744073709551615) = false := by
    rw [show (18446744073709551615 : Int) = ((last64 : Nat) : Int) from rfl, hb]
    simp; omega
  clear hb
  have hc64 : counter < M64 := Nat.lt_trans hc (by decide)
  have hxx := bx (mix_lt seed) hc64
  have hmix := hid_of (mix_any (mixN seed ^^^ counter) w.drew (hR.keep (below_drew (Below.refl _ w))))
  have hwr := hid_of (written_any (mixN (mixN seed ^^^ counter)) (mix_lt _))
  have hwrap := hid_of (wrap_small (a := counter + 1) (by unfold last64 at hc; unfold M64; omega))
  have hbs : Hid (b < w.heap.size) := (Array.getElem?_eq_some_iff.1 h).1
  replace h := hid_of h
  have htx : Hid (madeText seed counter = ⟨#[103]⟩ ++ ⟨(hexL (mixN (mixN seed ^^^ counter))).toArray⟩) := rfl
  have htl : (hexL (mixN (mixN seed ^^^ counter))).length = 16 := by simp [hexL]
  have hts : (⟨(hexL (mixN (mixN seed ^^^ counter))).toArray⟩ : ByteArray).size = 16 := by rw [← htl]; rfl
  clear hR hc hc64 htl
  generalize mixN (mixN seed ^^^ counter) = X at *
  generalize mixN seed ^^^ counter = Y at *
  go_enter Tryd.func10, Tryd.ntmps10
  go_wp2_with fail
  go_region_held3 (fun W => W.cell? ⟨b, 0, none⟩ = some (.int .u64 (mixN seed : Nat)) ∧ W.cell? ⟨b, 1, none⟩ = some (.int .u64 counter)) (go_keep) (first
    | (go_at_call 16; refine hmix.out.mono ?_; clear hmix; rintro e w5 ⟨rfl, hb5⟩; have hb5' : Below w.heap.size w w5 := (below_drew (Below.refl _ w)).trans hb5; clear hb5; have k0 := stay hb5' c0; have k1 := stay hb5' c1)
    | (go_at_call 33; refine (hwr.out _).mono ?_; clear hwr; rintro e w6 ⟨rfl, hb6⟩; have HB : Below w.heap.size w w6 := hb5'.trans (hb6.mono hb5'.size); clear hb6 hb5' k0 k1; have k0 := stay HB c0; have k1 := stay HB c1))
  have hM : w6.heap[b]? = _ := (HB.block _ hbs.out).trans h.out
  have f1 : w6.frozen? ⟨b, 1, none⟩ = false := by simp [World.frozen?, hM]
  replace hM := hid_of hM
  clear k0 c0 c1 hts hb'
  go_wp2_with fail
  go_ret2
  refine ⟨by rw [htx.out]; rfl, (HB.mono (Nat.le_of_lt hbs.out)).setCell (Nat.le_refl _) _, ?_, fun k hk hne => (Below.heap_setCell _ _ _ k hne).trans (HB.block k hk)⟩
  have hw : IntKind.u64.wrap ((counter : Int) + 1) = ((counter + 1 : Nat) : Int) := by
    rw [show ((counter : Int) + 1) = ((counter + 1 : Nat) : Int) by simp]
    exact hwrap.out
  unfold MakerAt
  rw [hw]
  simp [World.setCell, Array.getElem?_modify, hM.out]
def nextT (seed a : Nat) : ByteArray := if a = last64 then ⟨#[]⟩ else madeText seed a
def nextE (a : Nat) : Int := if a = last64 then 80 else 0
def stepC (a : Nat) : Nat := if a = last64 then a else a + 1
theorem step_lt {a : Nat} (h : a < M64) : stepC a < M64 := by
  unfold stepC last64
  unfold M64 at *
  split <;> omega
theorem once_p (b seed a : Nat) (ha : a < M64) (w : World) (hR : RoundsAt w) (h : MakerAt w b seed a) : Calls Tryd.prog 10 #[.pointer (some ⟨b, 0, none⟩)] w fun e w' => e = .returned (.tuple #[.string (nextT seed a), .int .i64 (nextE a)]) ∧ Below b w w' ∧ MakerAt w' b seed (stepC a) ∧ ∀ k, k < w.heap.size → k ≠ b → w'.heap[k]? = w.heap[k]? := by
  by_cases hl : a = last64
  · subst hl
    refine (next_last b seed w h).mono ?_
    rintro e w' ⟨rfl, rfl⟩
    exact ⟨rfl, Below.refl _ _, h, fun _ _ _ => rfl⟩
  · have e1 : nextT seed a = madeText seed a := if_neg hl
    have e2 : nextE a = 0 := if_neg hl
    have e3 : stepC a = a + 1 := if_neg hl
    rw [e1, e2, e3]
    exact next_frame b seed a (by unfold last64 at *; unfold M64 at ha; omega) w hR h
def RMakerAt (w : World) (b seed counter : Nat) : Prop := w.heap[b]? = some (.cells #[.int .u64 seed, .int .u64 counter] 48 (0, 0))
set_option maxHeartbeats 2000000 in
theorem rnext_last (b seed : Nat) (w : World) (h : RMakerAt w b seed last64) : Calls Tryd.prog 28 #[.pointer (some ⟨b, 0, none⟩)] w fun e w' => e = .returned (.tuple #[.string ⟨#[]⟩, .int .i64 80]) ∧ w' = w := by
  have c1 : w.cell? ⟨b, 1, none⟩ = some (.int .u64 18446744073709551615) := by
    unfold RMakerAt at h
    simp [World.cell?, h, last64]
  go_enter Tryd.func28, Tryd.ntmps28
  go_wp2_with fail
  go_ret2
  exact ⟨rfl, rfl⟩
set_option maxHeartbeats 2000000 in
theorem rnext_any (b seed c : Nat) (hc : c < last64) (w : World) (h : RMakerAt w b seed c) : Calls Tryd.prog 28 #[.pointer (some ⟨b, 0, none⟩)] w fun e w' => e = .returned (.tuple #[.string (madeText seed c), .int .i64 0]) ∧ Below b w w' ∧ RMakerAt w' b seed (c + 1) := by
  have c1 : w.cell? ⟨b, 1, none⟩ = some (.int .u64 c) := by
    unfold RMakerAt at h
    simp [World.cell?, h]
  have f1 : w.frozen? ⟨b, 1, none⟩ = false := by
    unfold RMakerAt at h
    simp [World.frozen?, h]
  have hb' : ((c : Int) == 18446744073709551615) = false := by
    rw [show (18446744073709551615 : Int) = ((last64 : Nat) : Int) from rfl, nat_beq]
    simp; omega
  have hof := hid_of (of_any seed c (Nat.lt_trans hc (by decide)))
  have hc1 : c + 1 < M64 := by unfold last64 at hc; unfold M64; omega
  obtain ⟨E, hE⟩ : ∃ E, E = c + 1 := ⟨_, rfl⟩
  rw [← hE]
  rw [← hE] at hc1
  have hw1 : IntKind.u64.wrap ((c : Int) + 1) = (E : Int) := by
    rw [show ((c : Int) + 1) = (E : Int) by omega]
    exact wrap_small hc1
  have hw2 : IntKind.u64.wrap ((E : Int) - 1) = (c : Int) := by
    rw [show ((E : Int) - 1) = (c : Int) by omega]
    exact wrap_small (Nat.lt_trans hc (by decide))
  have hN : RMakerAt (w.setCell ⟨b, 1, none⟩ (.int .u64 (E : Int))) b seed E := by
    unfold RMakerAt at *
    simp [World.setCell, Array.getElem?_modify, h]
  have HB : Below b w (w.setCell ⟨b, 1, none⟩ (.int .u64 (E : Int))) := (Below.refl b w).setCell (p := ⟨b, 1, none⟩) (Nat.le_refl b) _
  replace hN := hid_of hN
  replace HB := hid_of HB
  clear h hE hc hc1
  go_enter Tryd.func28, Tryd.ntmps28
  go_wp2_with fail
  generalize w.setCell ⟨b, 1, none⟩ (.int .u64 (E : Int)) = w1 at *
  clear c1 f1
  have c0 : w1.cell? ⟨b, 0, none⟩ = some (.int .u64 seed) := by
    have := hN.out
    unfold RMakerAt at this
    simp [World.cell?, this]
  have c1 : w1.cell? ⟨b, 1, none⟩ = some (.int .u64 E) := by
    have := hN.out
    unfold RMakerAt at this
    simp [World.cell?, this]
  go_quiet ((go_at_call 39; exact Calls.quiet_of_same (hof.out _)))
  go_wp2_with fail
  go_ret2
  exact ⟨rfl, below_drewN HB.out nq, hN.out⟩
theorem once_r (b seed a : Nat) (ha : a < M64) (w : World) (h : RMakerAt w b seed a) : Calls Tryd.prog 28 #[.pointer (some ⟨b, 0, none⟩)] w fun e w' => e = .returned (.tuple #[.string (nextT seed a), .int .i64 (nextE a)]) ∧ Below b w w' ∧ RMakerAt w' b seed (stepC a) := by
  by_cases hl : a = last64
  · subst hl
    refine (rnext_last b seed w h).mono ?_
    rintro e w' ⟨rfl, rfl⟩
    exact ⟨rfl, Below.refl _ _, h⟩
  · have e1 : nextT seed a = madeText seed a := if_neg hl
    have e2 : nextE a = 0 := if_neg hl
    have e3 : stepC a = a + 1 := if_neg hl
    rw [e1, e2, e3]
    exact rnext_any b seed a (by unfold last64 at *; unfold M64 at ha; omega) w h
end Go.Proofs.YtccfpbnkeaoicaaDoor
