import Derived.Test.YtdgdfpgekccibabCR
import Derived.BigQuiet
/-! clocks: lists of clocks, lists of races that are the same. -/
namespace Go.Proofs.Ytdgdfpgekccibab
open Go Go.RowKit
theorem eq_race (a b c d : Int) (w : World) : (binOp .neq 75 (.agg #[.int .i64 a, .int .i64 b]) (.agg #[.int .i64 c, .int .i64 d])).run Try.prog w = .ok (.bool (!(decide (a = c) && decide (b = d)))) w := by
  go_simp
  by_cases h1 : a = c <;> by_cases h2 : b = d <;> simp [h1, h2]
set_option maxHeartbeats 2000000 in
set_option maxRecDepth 100000 in
theorem same_true (a b : Option Addr) (n ca cb nc : Nat) (G G' : Nat → Nat) (f : Nat → Nat → Int) (w : World) (hca : n ≤ ca) (hcb : n ≤ cb) (hm : ca ≤ 9223372036854775807 ∧ cb ≤ 9223372036854775807) (hnc : nc ≤ 16)
    (ha : ∀ i, i < n → ∃ g, a = some ⟨g, 0, none⟩ ∧ w.cell? ⟨g, i, none⟩ = some (.slice (some ⟨G i, 0, none⟩) nc nc)) (hb : ∀ i, i < n → ∃ g, b = some ⟨g, 0, none⟩ ∧ w.cell? ⟨g, i, none⟩ = some (.slice (some ⟨G' i, 0, none⟩) nc nc))
    (hA : ∀ i k, i < n → k < nc → w.cell? ⟨G i, k, none⟩ = some (.int .i64 (f i k))) (hB : ∀ i k, i < n → k < nc → w.cell? ⟨G' i, k, none⟩ = some (.int .i64 (f i k))) :
    Calls Try.prog 14 #[.slice a n ca, .slice b n cb] w fun e w' => e = .returned (.bool true) ∧ Below w.heap.size w w' := by
  replace ha := hid_of ha
  replace hb := hid_of hb
  replace hA := hid_of hA
  replace hB := hid_of hB
  obtain ⟨hm1, hm2⟩ := hm
  go_enter Try.func14, Try.ntmps14
  go_wp2_with fail
  go_loopw [5] (fun i wr => ∃ m : Nat, i = .int .i64 m ∧ m ≤ n ∧ Below w.heap.size w wr) (fun i _ => n - (intOf i).toNat)
  case atStart => exact ⟨0, rfl, Nat.zero_le _, Below.refl _ w⟩
  case round =>
    obtain ⟨m, rfl, hmn, hBr⟩ := hrel
    by_cases hlt : m < n
    · obtain ⟨g, rfl, y0⟩ := ha.out m hlt
      obtain ⟨g', rfl, y1⟩ := hb.out m hlt
      have x0 := hid_of y0
      have x1 := hid_of y1
      replace y0 := stay hBr y0
      replace y1 := stay hBr y1
      replace hBr := hid_of hBr
      go_wp2_with fail
      go_quiet (fail)
      go_wp2_with fail
      clear y0 y1
      go_loopw [6] (fun k wr => ∃ q : Nat, k = .int .i64 q ∧ q ≤ nc ∧ Below w.heap.size w wr) (fun k _ => nc - (intOf k).toNat)
      case atStart => exact ⟨0, rfl, Nat.zero_le _, ⟨hBr.out.os, hBr.out.tape, hBr.out.output, hBr.out.size, hBr.out.block⟩⟩
      case round =>
        obtain ⟨q, rfl, hqn, hBq⟩ := hrel
        have y0 := stay hBq x0.out
        have y1 := stay hBq x1.out
        by_cases hq : q < nc
        · have z0 := stay hBq (hA.out m q hlt hq)
          have z1 := stay hBq (hB.out m q hlt hq)
          replace hBq := hid_of hBq
          go_wp2_with fail
          go_quiet (fail)
          go_wp2_with fail
          go_roundw
          case rel => exact ⟨q + 1, by go_num, by omega, ⟨hBq.out.os, hBq.out.tape, hBq.out.output, hBq.out.size, hBq.out.block⟩⟩
          case measure => simp [intOf]; omega
        · obtain rfl : q = nc := by omega
          replace hBq := hid_of hBq
          go_wp2_with fail
          go_roundw
          case rel => exact ⟨m + 1, by go_num, by omega, hBq.out⟩
          case measure => simp [intOf]; omega
    · obtain rfl : m = n := by omega
      go_wp2_with fail
      exact bodyPost_ret (v := .bool true) (by simp [results, Try.results14, go_sem]) rfl ⟨rfl, hBr⟩
set_option maxHeartbeats 2000000 in
set_option maxRecDepth 100000 in
theorem races_true (a b : Option Addr) (n ca cb : Nat) (F S : Nat → Int) (w : World) (hca : n ≤ ca) (hcb : n ≤ cb) (hm : ca ≤ 9223372036854775807 ∧ cb ≤ 9223372036854775807)
    (ha : ∀ i, i < n → ∃ g, a = some ⟨g, 0, none⟩ ∧ w.cell? ⟨g, i * 2, none⟩ = some (.int .i64 (F i)) ∧ w.cell? ⟨g, i * 2 + 1, none⟩ = some (.int .i64 (S i)))
    (hb : ∀ i, i < n → ∃ g, b = some ⟨g, 0, none⟩ ∧ w.cell? ⟨g, i * 2, none⟩ = some (.int .i64 (F i)) ∧ w.cell? ⟨g, i * 2 + 1, none⟩ = some (.int .i64 (S i))) :
    Calls Try.prog 18 #[.slice a n ca, .slice b n cb] w fun e w' => e = .returned (.bool true) ∧ Below w.heap.size w w' := by
  replace ha := hid_of ha
  replace hb := hid_of hb
  obtain ⟨hm1, hm2⟩ := hm
  go_enter Try.func18, Try.ntmps18
  go_wp2_with fail
  go_loopw [5] (fun i wr => ∃ m : Nat, i = .int .i64 m ∧ m ≤ n ∧ Below w.heap.size w wr) (fun i _ => n - (intOf i).toNat)
  case atStart => exact ⟨0, rfl, Nat.zero_le _, Below.refl _ w⟩
  case round =>
    obtain ⟨m, rfl, hmn, hBr⟩ := hrel
    by_cases hlt : m < n
    · obtain ⟨g, rfl, y0, y1⟩ := ha.out m hlt
      obtain ⟨g', rfl, y2, y3⟩ := hb.out m hlt
      replace y0 := stay hBr y0
      replace y1 := stay hBr y1
      replace y2 := stay hBr y2
      replace y3 := stay hBr y3
      have heq : ∀ w, (binOp .neq 75 (.agg #[.int .i64 (F m), .int .i64 (S m)]) (.agg #[.int .i64 (F m), .int .i64 (S m)])).run Try.prog w = .ok (.bool false) w := fun w => by rw [eq_race]; simp
      replace hBr := hid_of hBr
      go_wp2_with fail
      go_quiet (fail)
      go_wp2_with fail
      go_roundw
      case rel => exact ⟨m + 1, by go_num, by omega, ⟨hBr.out.os, hBr.out.tape, hBr.out.output, hBr.out.size, hBr.out.block⟩⟩
      case measure => simp [intOf]; omega
    · obtain rfl : m = n := by omega
      go_wp2_with fail
      exact bodyPost_ret (v := .bool true) (by simp [results, Try.results18, go_sem]) rfl ⟨rfl, hBr⟩
end Go.Proofs.Ytdgdfpgekccibab
