import Derived.Test.YteghmgjdibdnlaaGreatDoorW1
namespace Go.Proofs.YteghmgjdibdnlaaGreatDoor
open Go Go.RowKit

/-- Where the blanks end. -/
def skipTo (T : ByteArray) : Nat → Nat → Nat
  | 0, n => n
  | f + 1, n => if n < T.size ∧ blank (byteAt T n) = true then skipTo T f (n + 1) else n
def skip (T : ByteArray) (n : Nat) : Nat := skipTo T (T.size - n) n
theorem skipTo_eq (T : ByteArray) (f n k : Nat) (hf : k ≤ n + f) (hnk : n ≤ k) (hb : ∀ i, n ≤ i → i < k → i < T.size ∧ blank (byteAt T i) = true) (he : ¬ (k < T.size ∧ blank (byteAt T k) = true)) : skipTo T f n = k := by
  induction f generalizing n with
  | zero => simp [skipTo]; omega
  | succ f ih =>
    unfold skipTo
    by_cases h : n = k
    · subst h; rw [if_neg he]
    · rw [if_pos (hb n (Nat.le_refl _) (by omega))]
      exact ih (n + 1) (by omega) (by omega) (fun i h1 h2 => hb i (by omega) h2)
theorem skip_eq (T : ByteArray) (n k : Nat) (hnk : n ≤ k) (hk : k ≤ T.size) (hb : ∀ i, n ≤ i → i < k → blank (byteAt T i) = true) (he : k = T.size ∨ blank (byteAt T k) = false) : skip T n = k :=
  skipTo_eq T _ n k (by omega) hnk (fun i h1 h2 => ⟨by omega, hb i h1 h2⟩) (by rcases he with h | h <;> simp [h])

set_option maxHeartbeats 1000000 in
theorem blanks_any (b n : Nat) (T : ByteArray) (w : World) (hA : At b T n w) (hn : n ≤ T.size) (hT : T.size ≤ 65536) :
    Calls Tryz.prog 54 #[.pointer (some ⟨b, 0, none⟩)] w fun e w' => e = .returned (.tuple #[]) ∧ At b T (skip T n) w' ∧ Kp b w w' ∧ w'.heap.size = w.heap.size ∧ n ≤ skip T n ∧ skip T n ≤ T.size := by
  go_enter Tryz.func54, Tryz.ntmps54
  go_wp2
  go_loopw [] (fun wr => ∃ k : Nat, n ≤ k ∧ k ≤ T.size ∧ At b T k wr ∧ Kp b w wr ∧ wr.heap.size = w.heap.size ∧ Hid (∀ i, n ≤ i → i < k → blank (byteAt T i) = true)) (fun wr => T.size - (intOf ((wr.cell? ⟨b, 1, none⟩).getD (.int .i64 0))).toNat)
  case atStart => exact ⟨n, Nat.le_refl _, hn, hA, Kp.refl _ _, rfl, fun i h1 h2 => by omega⟩
  case round =>
    obtain ⟨k, hnk, hk, hAk, hK, hs, hB⟩ := hrel
    have h0 := hAk.c0
    have h1 := hAk.c1
    have hf := hAk.fz 1
    by_cases hlt : k < T.size
    · have hd : decide ((k : Int) < (T.size : Int)) = true := by simp; omega
      have he := byteAt_eq hlt
      by_cases hb : blank (byteAt T k) = true
      · go_wp2
        go_quiet ((go_at_call 66; exact Calls.quiet_of_same (isBlank_any _ _)))
        go_wp2
        go_roundw
        case rel =>
          exact ⟨k + 1, by omega, by omega, ((hAk.drewN _).set _ (k + 1) (by omega)), (hK.drewN _).setCell _ _, by simpa [World.setCell] using hs, fun i h1 h2 => by
            by_cases e : i = k
            · subst e; exact hb
            · exact hB.out i h1 (by omega)⟩
        case measure =>
          rw [((hAk.drewN nq).set _ (k + 1) (by omega)).c1, h1]
          simp [intOf]; omega
      · have hb' : blank (byteAt T k) = false := by simpa using hb
        clear hb
        go_wp2
        go_quiet ((go_at_call 66; exact Calls.quiet_of_same (isBlank_any _ _)))
        go_wp2
        have hs' := skip_eq T n k hnk hk hB.out (Or.inr hb')
        go_end0
        rw [hs']
        exact ⟨rfl, hAk.drewN _, hK.drewN _, hs, hnk, hk⟩
    · have hd : decide ((k : Int) < (T.size : Int)) = false := by simp; omega
      go_wp2
      go_quiet ((go_at_call 66; exact Calls.quiet_of_same (isBlank_any _ _)))
      go_wp2
      have hs' := skip_eq T n k hnk hk hB.out (Or.inl (by omega))
      go_end0
      rw [hs']
      exact ⟨rfl, hAk.drewN _, hK.drewN _, hs, hnk, hk⟩
end Go.Proofs.YteghmgjdibdnlaaGreatDoor
