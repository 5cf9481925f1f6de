import Derived.Test.YtdgdfpgekccibabSM
import Derived.Test.YtdgdfpgekccibabOW
/-! kept: events are as they were, marks and all. -/
namespace Go.Proofs.Ytdgdfpgekccibab
open Go Go.RowKit
theorem eq_ev (c k o n : Int) (w : World) : (binOp .neq 57 (.agg #[.int .i64 c, .int .i64 k, .int .i64 o, .int .i64 n]) (.agg #[.int .i64 c, .int .i64 k, .int .i64 o, .int .i64 n])).run Try.prog w = .ok (.bool false) w := by
  go_simp
theorem marks_at {q : Nat} (h : q < 8) : (marksE 8)[q]? = some ⟨100 + (q : Int), 0, 0, 0⟩ := by
  unfold marksE
  rw [List.getElem?_map, List.getElem?_range h]
  rfl
theorem own_marks {w : World} {lo : Nat} {evs : List Ev} {g cap : Nat} (h : w.ownsRow lo 57 4 (.slice (some ⟨g, 0, none⟩) (evs.length + 8) cap) (evs.length + 8) (flatE (evs ++ marksE 8))) {q : Nat} (hq : q < 8) : w.cell? ⟨g, (evs.length + q) * 4, none⟩ = some (.int .i64 (100 + (q : Int))) := by
  refine ownsRow_cell h ?_
  have := flatE_get (evs ++ marksE 8) (evs.length + q) 0 (by decide)
  rw [Nat.add_zero] at this
  rw [this, List.getElem?_append_right (by omega), show evs.length + q - evs.length = q by omega, marks_at hq]
  rfl
set_option maxHeartbeats 2000000 in
set_option maxRecDepth 100000 in
theorem kept_any (a : Option Addr) (cap g c lo : Nat) (evs : List Ev) (w : World) (hE : EvsAt w a evs) (hcap : evs.length ≤ cap) (hcm : cap ≤ 9223372036854775807) (hF : EvsAt w (some ⟨g, 0, none⟩) evs) (hc1 : evs.length + 8 ≤ c) (hc2 : c ≤ 9223372036854775807) (hO : w.ownsRow lo 57 4 (.slice (some ⟨g, 0, none⟩) (evs.length + 8) c) (evs.length + 8) (flatE (evs ++ marksE 8))) :
    Calls Try.prog 15 #[.slice (some ⟨g, 0, none⟩) evs.length c, .slice a evs.length cap] w fun e w' => e = .returned (.bool true) ∧ Below w.heap.size w w' := by
  have hmk := hid_of (fun q (hq : q < 8) => own_marks hO hq)
  obtain ⟨n, hn⟩ : ∃ n, Hid (evs.length = n) := ⟨_, rfl⟩
  rw [hn.out] at hcap hc1 hmk ⊢
  replace hE := hid_of hE
  replace hF := hid_of hF
  clear hO
  go_enter Try.func15, Try.ntmps15
  go_wp2_with fail
  go_loopw [6] (fun iv wr => ∃ m : Nat, iv = .int .i64 (m : Nat) ∧ m ≤ n ∧ Below w.heap.size w wr) (fun iv _ => n - (intOf iv).toNat)
  case atStart => exact ⟨0, rfl, Nat.zero_le _, Below.refl _ w⟩
  case round =>
    obtain ⟨wo, hwo⟩ : ∃ wo : World, wo = wr := ⟨_, rfl⟩
    subst hwo
    obtain ⟨m, rfl, hmn, hBr⟩ := hrel
    by_cases hlt : m < n
    · obtain ⟨e, he⟩ : ∃ e, Hid (evs[m]? = some e) := ⟨evs[m]'(by have := hn.out; omega), List.getElem?_eq_getElem (by have := hn.out; omega)⟩
      obtain ⟨b, o, rfl, -, x0, x1, x2, x3⟩ := (hE.out.keep hBr) m e he.out
      obtain ⟨b', o', hbo, -, z0, z1, z2, z3⟩ := (hF.out.keep hBr) m e he.out
      cases hbo
      obtain ⟨ec, ek, eo, en⟩ := e
      simp only [Nat.zero_add] at x0 x1 x2 x3 z0 z1 z2 z3
      have heq := eq_ev ec ek eo en
      replace hBr := hid_of hBr
      go_wp2_with fail
      go_quiet (fail)
      go_wp2_with fail
      go_roundw
      case rel => exact ⟨m + 1, by go_num, by omega, ⟨hBr.out.os, hBr.out.tape, hBr.out.output, hBr.out.size, hBr.out.block⟩⟩
      case measure => simp [intOf]; omega
    · obtain rfl : m = n := by omega
      replace hBr := hid_of hBr
      go_wp2_with fail
      go_loopw [7] (fun iv wr2 => ∃ q : Nat, iv = .int .i64 (q : Nat) ∧ q ≤ 8 ∧ Below w.heap.size w wr2) (fun iv _ => 8 - (intOf iv).toNat)
      case atStart => exact ⟨0, rfl, Nat.zero_le _, hBr.out⟩
      case round =>
        obtain ⟨q, rfl, hq8, hB2⟩ := hrel
        by_cases hq : q < 8
        · have y0 := stay hB2 (hmk.out q hq)
          replace hB2 := hid_of hB2
          have hmq : m + q < m + 8 := by omega
          go_wp2_with fail
          go_roundw
          case rel => exact ⟨q + 1, by go_num, by omega, hB2.out⟩
          case measure => simp [intOf]; omega
        · obtain rfl : q = 8 := by omega
          go_wp2_with fail
          exact bodyPost_ret (v := .bool true) (by simp [results, Try.results15, go_sem]) rfl ⟨rfl, hB2⟩
end Go.Proofs.Ytdgdfpgekccibab
