import Derived.Test.YtaedihabhpleiaaWF
/-! Window of both; ShapeWindows. -/
namespace Go.Proofs.Ytaedihabhpleiaa
open Go Go.RowKit

def winF (n s : Int) : Int := if n < 0 then 0 else min n (max s 0)
def winT (n s l : Int) : Int := if n < 0 then 0 else if 0 < l ∧ l < n - min n (max s 0) then min n (max s 0) + l else n
set_option maxHeartbeats 2000000 in
theorem window_any (n s l : Int) (hn : n ≤ 9223372036854775807) (hl : l ≤ 9223372036854775807) (w : World) :
    Calls Try.prog 4 #[.int .i64 n, .int .i64 s, .int .i64 l] w fun e w' => e = .returned (.tuple #[.int .i64 (winF n s), .int .i64 (winT n s l)]) ∧ w' = w := by
  by_cases h0 : n < 0
  · have hd : decide (n < 0) = true := by simpa using h0
    rw [show winF n s = 0 by simp [winF, h0], show winT n s l = 0 by simp [winT, h0]]
    go_enter Try.func4, Try.ntmps4
    go_wp2
    go_ret2
    exact ⟨rfl, rfl⟩
  · have hd : decide (n < 0) = false := by simpa using h0
    obtain ⟨f, hf⟩ : ∃ f, min n (max s 0) = f := ⟨_, rfl⟩
    have f0 : 0 ≤ f := by omega
    have f1 : f ≤ n := by omega
    have hn0 : 0 ≤ n := by omega
    rw [show winF n s = f by simp [winF, h0, hf]]
    by_cases h1 : 0 < l
    · have hd1 : decide (0 < l) = true := by simpa using h1
      by_cases h2 : l < n - f
      · have hd2 : decide (l < n - f) = true := by simpa using h2
        rw [show winT n s l = f + l by simp [winT, h0, hf, h1, h2]]
        go_enter Try.func4, Try.ntmps4
        go_wp2
        go_ret2
        exact ⟨rfl, rfl⟩
      · have hd2 : decide (l < n - f) = false := by simpa using h2
        rw [show winT n s l = n by simp [winT, h0, hf, h2]]
        go_enter Try.func4, Try.ntmps4
        go_wp2
        go_ret2
        exact ⟨rfl, rfl⟩
    · have hd1 : decide (0 < l) = false := by simpa using h1
      rw [show winT n s l = n by simp [winT, h0, h1]]
      go_enter Try.func4, Try.ntmps4
      go_wp2
      go_ret2
      exact ⟨rfl, rfl⟩
set_option maxHeartbeats 2000000 in
theorem rwindow_any (n s l : Int) (hn : n ≤ 9223372036854775807) (hl : l ≤ 9223372036854775807) (w : World) :
    Calls Try.prog 5 #[.int .i64 n, .int .i64 s, .int .i64 l] w fun e w' => e = .returned (.tuple #[.int .i64 (winF n s), .int .i64 (winT n s l)]) ∧ w' = w := by
  by_cases h0 : n < 0
  · have hd : decide (n < 0) = true := by simpa using h0
    rw [show winF n s = 0 by simp [winF, h0], show winT n s l = 0 by simp [winT, h0]]
    go_enter Try.func5, Try.ntmps5
    go_wp2
    go_ret2
    exact ⟨rfl, rfl⟩
  · have hd : decide (n < 0) = false := by simpa using h0
    have hn0 : 0 ≤ n := by omega
    obtain ⟨f, hf⟩ : ∃ f, Hid (min n (max s 0) = f) := ⟨_, rfl⟩
    have f0 : 0 ≤ f := by have := hf.out; omega
    have f1 : f ≤ n := by have := hf.out; omega
    rw [show winF n s = f by simp [winF, h0, hf.out]]
    have hc : (n < s ∧ f = n) ∨ (¬ n < s ∧ 0 < s ∧ f = s) ∨ (¬ n < s ∧ ¬ 0 < s ∧ f = 0) := by have := hf.out; omega
    have hT : (l ≤ 0 ∧ winT n s l = n) ∨ (¬ l ≤ 0 ∧ n - f < l ∧ winT n s l = n) ∨ (¬ l ≤ 0 ∧ ¬ n - f < l ∧ winT n s l = f + l) := by
      by_cases h1 : l ≤ 0
      · exact .inl ⟨h1, by simp [winT, h0, show ¬ 0 < l by omega]⟩
      · by_cases h2 : n - f < l
        · exact .inr (.inl ⟨h1, h2, by simp [winT, h0, hf.out, show ¬ l < n - f by omega]⟩)
        · refine .inr (.inr ⟨h1, h2, ?_⟩)
          by_cases h3 : l < n - f
          · simp [winT, h0, hf.out, h3, show 0 < l by omega]
          · simp [winT, h0, hf.out, h3]; omega
    clear hf
    rcases hc with ⟨c1, rfl⟩ | ⟨c1, c2, rfl⟩ | ⟨c1, c2, rfl⟩
    all_goals
      rcases hT with ⟨t1, tE⟩ | ⟨t1, t2, tE⟩ | ⟨t1, t2, tE⟩
      all_goals
        rw [tE]
        clear tE
        go_enter Try.func5, Try.ntmps5
        go_wp2
        all_goals
          go_ret2
          exact ⟨rfl, rfl⟩
set_option maxHeartbeats 4000000 in
set_option maxRecDepth 100000 in
theorem windows_true (n s l : Int) (hn : n ≤ 9223372036854775807) (hl : l ≤ 9223372036854775807) (w : World) :
    Calls Try.prog 3 #[.int .i64 n, .int .i64 s, .int .i64 l] w fun e w' => e = .returned (.bool true) ∧ Below w.heap.size w w' := by
  have h1 := hid_of (window_any n s l hn hl w)
  have h2 := hid_of (rwindow_any n s l hn hl w)
  have h3 := hid_of (live6 w)
  generalize winF n s = F at h1 h2
  generalize winT n s l = T at h1 h2
  have eF : (F == F) = true := by simp
  have eT : (T == T) = true := by simp
  by_cases hb : n < 0 ∨ 2000 < n ∨ l < 1
  · have hc : (decide (n < 0) = true) ∨ (decide (n < 0) = false ∧ decide (2000 < n) = true) ∨ (decide (n < 0) = false ∧ decide (2000 < n) = false ∧ decide (l < 1) = true) := by
      simp only [decide_eq_true_eq, decide_eq_false_iff_not]; omega
    clear hb
    rcases hc with c1 | ⟨c1, c2⟩ | ⟨c1, c2, c3⟩
    all_goals
      go_enter Try.func3, Try.ntmps3
      go_wp2_with (first | (go_at_call 4; refine h1.out.mono ?_; rintro e w1 ⟨rfl, rfl⟩) | (go_at_call 5; refine h2.out.mono ?_; rintro e w2 ⟨rfl, rfl⟩) | (go_at_call 6; refine h3.out.mono ?_; rintro e w3 ⟨rfl, hb⟩))
      go_ret
      exact ⟨rfl, hb⟩
  · have c1 : decide (n < 0) = false := by simp; omega
    have c2 : decide (2000 < n) = false := by simp; omega
    have c3 : decide (l < 1) = false := by simp; omega
    obtain ⟨N, rfl⟩ : ∃ N : Nat, n = N := ⟨n.toNat, by omega⟩
    go_enter Try.func3, Try.ntmps3
    go_wp2_with (first | (go_at_call 4; refine h1.out.mono ?_; rintro e w1 ⟨rfl, rfl⟩) | (go_at_call 5; refine h2.out.mono ?_; rintro e w2 ⟨rfl, rfl⟩) | (go_at_call 6; refine h3.out.mono ?_; rintro e w3 ⟨rfl, hb3⟩; replace hb3 := hid_of hb3))
    clear h1 h2 h3 eF eT c1 c2 c3
    go_loopw [11, 12] (fun at_ k wr => ∃ a j : Nat, j ≤ a ∧ a ≤ N ∧ at_ = .int .i64 a ∧ k = .int .i64 j ∧ wr = w3) (fun at_ _ _ => N - (intOf at_).toNat)
    case atStart => exact ⟨0, 0, Nat.le_refl _, Nat.zero_le _, rfl, rfl, rfl⟩
    case round =>
      obtain ⟨a, j, hj, ha, rfl, rfl, rfl⟩ := hrel
      have d1 : decide ((j : Int) < 2001) = true := by simp; omega
      by_cases hlt : a < N
      · have d2 : decide ((a : Int) < (N : Int)) = true := by simp; omega
        have hw := hid_of (window_any (N : Int) (a : Int) l hn hl wr)
        have eF : winF (N : Int) (a : Int) = (a : Int) := by unfold winF; rw [if_neg (by omega)]; omega
        obtain ⟨M, hM⟩ : ∃ M : Nat, Hid (winT (N : Int) (a : Int) l = (M : Int)) := ⟨(winT (N : Int) (a : Int) l).toNat, hid_of (by
          unfold winT
          rw [if_neg (by omega)]
          split <;> omega)⟩
        have hM2 : Hid (a < M ∧ M ≤ N ∧ (M : Int) - a ≤ l) := hid_of (by
          have h := hM.out
          unfold winT at h
          rw [if_neg (by omega)] at h
          split at h <;> omega)
        rw [eF, hM.out] at hw
        clear eF hM
        have d3 : decide ((M : Int) ≤ (a : Int)) = false := by have := hM2.out; simp; omega
        have d4 : decide ((N : Int) < (M : Int)) = false := by have := hM2.out; simp; omega
        have d5 : decide (l < (M : Int) - (a : Int)) = false := by have := hM2.out; simp; omega
        have d6 : ((a : Int) != (a : Int)) = false := by simp
        have m1 : a < M := hM2.out.1
        have m2 : M ≤ N := hM2.out.2.1
        go_wp2_with (go_at_call 4; refine hw.out.mono ?_; rintro e w4 ⟨rfl, rfl⟩)
        go_roundw
        case rel => exact ⟨M, j + 1, by omega, by omega, by first | trivial | rfl, by first | trivial | simp, by first | trivial | rfl⟩
        case measure => simp [intOf]; omega
      · have d2 : decide ((a : Int) < (N : Int)) = false := by simp; omega
        have d3 : ((a : Int) == (N : Int)) = true := by simp; omega
        go_wp2_with fail
        go_ret
        exact ⟨rfl, hb3.out⟩
end Go.Proofs.Ytaedihabhpleiaa
