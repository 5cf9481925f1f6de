import Derived.Test.YtpdcinicnekeoaaWB
/-! watch: cut, lastOf. -/
namespace Go.Proofs.Ytpdcinicnekeoaa
open Go Go.RowKit Go.Watch
theorem slice_hm {P : Program} (t e : TypeId) (i : TypeInfo) (ht : P.underlying t = some (.slice e)) (hi : P.info? e = some i) (a : Option Addr) (n cap k : Nat) (hk : k ≤ n) (hn : n ≤ cap) (w : World) :
    (Instr.slice t (.slice a n cap) none (some (.int .i64 (k : Int))) (some (.int .i64 (k : Int)))).run P w = .ok (.slice a k k) w := by
  have e1 : P.elem t = e := by simp [Program.elem, ht]
  rw [run_slice_hm w t a n cap (by rw [e1]; exact ht) .i64 .i64 k k (by omega) (by omega) (by omega), e1]
  simp [sizeOf, typeInfo, hi, sliced]
  intro h
  cases a <;> simp [Addr.add]
theorem slice_lhm {P : Program} (t e : TypeId) (i : TypeInfo) (ht : P.underlying t = some (.slice e)) (hi : P.info? e = some i) (a : Option Addr) (n cap k : Nat) (hk : k ≤ n) (hn : n ≤ cap) (w : World) :
    (Instr.slice t (.slice a n cap) (some (.int .i64 (k : Int))) (some (.int .i64 (n : Int))) (some (.int .i64 (n : Int)))).run P w = .ok (.slice (advA a k i.size n) (n - k) (n - k)) w := by
  have e1 : P.elem t = e := by simp [Program.elem, ht]
  rw [run_slice_lhm w t a n cap (by rw [e1]; exact ht) .i64 .i64 .i64 k n n (by omega) (by omega) (by omega) (by omega), e1]
  simp [sizeOf, typeInfo, hi, sliced, advA]
set_option maxHeartbeats 1000000 in
set_option maxRecDepth 100000 in
theorem cutp_any (a : Option Addr) (n cap k : Nat) (hk : k ≤ n) (hn : n ≤ cap) (w : World) :
    Calls Try.prog 22 #[.slice a n cap, .int .i64 (k : Int)] w fun e w' => e = .returned (.tuple #[.slice a k k, .slice (advA a k 1 n) (n - k) (n - k)]) ∧ ∃ m, w' = w.drewN m := by
  have hi : ∃ i, Try.prog.info? 59 = some i ∧ i.size = 1 := by
    have : (Try.prog.info? 59).map (·.size) = some 1 := by kernel_rfl
    cases hq : Try.prog.info? 59 with
    | none => rw [hq] at this; cases this
    | some i => rw [hq] at this; exact ⟨i, rfl, by simpa using this⟩
  obtain ⟨i, hi, hs⟩ := hi
  have r1 := slice_hm 54 59 i Try.underlying54 hi a n cap k hk hn
  have r2 := slice_lhm 54 59 i Try.underlying54 hi a n cap k hk hn
  rw [hs] at r2
  generalize advA a k 1 n = a' at r2 ⊢
  obtain ⟨m, hm'⟩ : ∃ m, Hid (n - k = m) := ⟨_, rfl⟩
  rw [hm'.out] at r2 ⊢
  clear hi hs
  go_enter Try.func22, Try.ntmps22
  go_wp2
  go_quiet (fail)
  go_wp2
  go_ret2
  exact ⟨rfl, _, rfl⟩
set_option maxHeartbeats 1000000 in
set_option maxRecDepth 100000 in
theorem cutc_any (a : Option Addr) (n cap k : Nat) (hk : k ≤ n) (hn : n ≤ cap) (w : World) :
    Calls Try.prog 34 #[.slice a n cap, .int .i64 (k : Int)] w fun e w' => e = .returned (.tuple #[.slice a k k, .slice (advA a k 4 n) (n - k) (n - k)]) ∧ ∃ m, w' = w.drewN m := by
  have hi : ∃ i, Try.prog.info? 30 = some i ∧ i.size = 4 := by
    have : (Try.prog.info? 30).map (·.size) = some 4 := by kernel_rfl
    cases hq : Try.prog.info? 30 with
    | none => rw [hq] at this; cases this
    | some i => rw [hq] at this; exact ⟨i, rfl, by simpa using this⟩
  obtain ⟨i, hi, hs⟩ := hi
  have r1 := slice_hm 23 30 i Try.underlying23 hi a n cap k hk hn
  have r2 := slice_lhm 23 30 i Try.underlying23 hi a n cap k hk hn
  rw [hs] at r2
  generalize advA a k 4 n = a' at r2 ⊢
  obtain ⟨m, hm'⟩ : ∃ m, Hid (n - k = m) := ⟨_, rfl⟩
  rw [hm'.out] at r2 ⊢
  clear hi hs
  go_enter Try.func34, Try.ntmps34
  go_wp2
  go_quiet (fail)
  go_wp2
  go_ret2
  exact ⟨rfl, _, rfl⟩
set_option maxHeartbeats 1000000 in
set_option maxRecDepth 100000 in
theorem cutl_any (a : Option Addr) (n cap k : Nat) (hk : k ≤ n) (hn : n ≤ cap) (w : World) :
    Calls Try.prog 36 #[.slice a n cap, .int .i64 (k : Int)] w fun e w' => e = .returned (.tuple #[.slice a k k, .slice (advA a k 1 n) (n - k) (n - k)]) ∧ ∃ m, w' = w.drewN m := by
  have hi : ∃ i, Try.prog.info? 23 = some i ∧ i.size = 1 := by
    have : (Try.prog.info? 23).map (·.size) = some 1 := by kernel_rfl
    cases hq : Try.prog.info? 23 with
    | none => rw [hq] at this; cases this
    | some i => rw [hq] at this; exact ⟨i, rfl, by simpa using this⟩
  obtain ⟨i, hi, hs⟩ := hi
  have r1 := slice_hm 43 23 i Try.underlying43 hi a n cap k hk hn
  have r2 := slice_lhm 43 23 i Try.underlying43 hi a n cap k hk hn
  rw [hs] at r2
  generalize advA a k 1 n = a' at r2 ⊢
  obtain ⟨m, hm'⟩ : ∃ m, Hid (n - k = m) := ⟨_, rfl⟩
  rw [hm'.out] at r2 ⊢
  clear hi hs
  go_enter Try.func36, Try.ntmps36
  go_wp2
  go_quiet (fail)
  go_wp2
  go_ret2
  exact ⟨rfl, _, rfl⟩
set_option maxHeartbeats 1000000 in
theorem lastOfp_any (a : Option Addr) (n cap q : Nat) (hn : n ≤ cap) (hm : cap ≤ 9223372036854775807) (hq : q ≤ 1048576) (w : World) :
    Calls Try.prog 28 #[.slice a n cap, .int .i64 (q : Int)] w fun e w' => e = .returned (.tuple #[.slice a (n - q) (n - q), .slice (advA a (n - q) 1 n) (n - (n - q)) (n - (n - q))]) ∧ ∃ m, w' = w.drewN m := by
  have hc := hid_of (cutp_any a n cap (n - q) (by omega) hn w)
  obtain ⟨k, hk⟩ : ∃ k, Hid (n - q = k) := ⟨_, rfl⟩
  rw [hk.out] at hc ⊢
  have h2 : (n : Int) ≤ 9223372036854775807 := by omega
  rcases Nat.lt_or_ge q n with hle | hle
  rotate_left
  · obtain rfl : k = 0 := by have := hk.out; omega
    rw [show ((0 : Nat) : Int) = 0 from rfl] at hc
    have h3 : (n : Int) - (q : Int) ≤ 0 := by omega
    have h4 : ¬ (0 : Int) < (n : Int) - (q : Int) := by omega
    go_enter Try.func28, Try.ntmps28
    go_wp2_with fail
    refine hc.out.mono ?_
    rintro e w' ⟨rfl, m, rfl⟩
    go_wp2
    go_ret2
    exact ⟨rfl, _, rfl⟩
  · have h1 : Hid ((n : Int) - (q : Int) = (k : Int)) := by have := hk.out; show _ = _; omega
    have h3 : ¬ (n : Int) - (q : Int) ≤ 0 := by omega
    have h4 : (0 : Int) < (n : Int) - (q : Int) := by omega
    go_enter Try.func28, Try.ntmps28
    go_wp2_with fail
    rw [h1.out]
    refine hc.out.mono ?_
    rintro e w' ⟨rfl, m, rfl⟩
    go_wp2
    go_ret2
    exact ⟨rfl, _, rfl⟩
set_option maxHeartbeats 1000000 in
theorem lastOfc_any (a : Option Addr) (n cap q : Nat) (hn : n ≤ cap) (hm : cap ≤ 9223372036854775807) (hq : q ≤ 1048576) (w : World) :
    Calls Try.prog 27 #[.slice a n cap, .int .i64 (q : Int)] w fun e w' => e = .returned (.tuple #[.slice a (n - q) (n - q), .slice (advA a (n - q) 4 n) (n - (n - q)) (n - (n - q))]) ∧ ∃ m, w' = w.drewN m := by
  have hc := hid_of (cutc_any a n cap (n - q) (by omega) hn w)
  obtain ⟨k, hk⟩ : ∃ k, Hid (n - q = k) := ⟨_, rfl⟩
  rw [hk.out] at hc ⊢
  have h2 : (n : Int) ≤ 9223372036854775807 := by omega
  rcases Nat.lt_or_ge q n with hle | hle
  rotate_left
  · obtain rfl : k = 0 := by have := hk.out; omega
    rw [show ((0 : Nat) : Int) = 0 from rfl] at hc
    have h3 : (n : Int) - (q : Int) ≤ 0 := by omega
    have h4 : ¬ (0 : Int) < (n : Int) - (q : Int) := by omega
    go_enter Try.func27, Try.ntmps27
    go_wp2_with fail
    refine hc.out.mono ?_
    rintro e w' ⟨rfl, m, rfl⟩
    go_wp2
    go_ret2
    exact ⟨rfl, _, rfl⟩
  · have h1 : Hid ((n : Int) - (q : Int) = (k : Int)) := by have := hk.out; show _ = _; omega
    have h3 : ¬ (n : Int) - (q : Int) ≤ 0 := by omega
    have h4 : (0 : Int) < (n : Int) - (q : Int) := by omega
    go_enter Try.func27, Try.ntmps27
    go_wp2_with fail
    rw [h1.out]
    refine hc.out.mono ?_
    rintro e w' ⟨rfl, m, rfl⟩
    go_wp2
    go_ret2
    exact ⟨rfl, _, rfl⟩
end Go.Proofs.Ytpdcinicnekeoaa
