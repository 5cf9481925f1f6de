import Derived.Test.YtloeongljbgmnaaEE
import Derived.Recover
/-! epoch: stampOf, has, Pin, Unpin, Retired. -/
namespace Go.Proofs.Ytloeongljbgmnaa
open Go Go.RowKit
theorem catch_idle (w : World) : CallsD Try.prog 39 #[] .returning w fun e u' w' => e = .returned (.tuple #[]) ∧ u' = .returning ∧ w' = w := by
  refine callsD_of_wpS Try.func39 rfl fun c₀ cs hu => ?_
  apply wpS_region
  cases c₀
  simp_all [wpOpsS, go_sem, recoverD, Try.ntmps39, bodyPostS, results, Try.results39]
theorem meth_stamp (n : Nat) (v : Value) (w : World) : (method (n + 1) 28 v "Stamp").run Try.prog w = .ok (101, v) w := by kernel_rfl
theorem mk_root (v : Value) (w : World) : (Instr.makeInterface 28 v).run Try.prog w = .ok (.iface 28 v) w := by kernel_rfl
set_option maxRecDepth 100000 in
theorem rstamp_any (s : Int) (na : Option Addr) (nn nc : Nat) (tg : Int) (w : World) : Calls Try.prog 101 #[.agg #[.int .i64 s, .slice na nn nc, .int .i64 tg]] w fun e w' => e = .returned (.int .i64 s) ∧ Below w.heap.size w w' := by
  have hB : Hid (Below w.heap.size w (w.alloc (.cells #[.int .i64 s, .slice na nn nc, .int .i64 tg] 28))) := (Below.refl _ w).alloc (Nat.le_refl _) _
  go_enter Try.func101, Try.ntmps101
  go_wp2
  go_ret
  exact ⟨rfl, hB.out⟩
set_option maxRecDepth 100000 in
set_option maxHeartbeats 1000000 in
theorem stamp_any (s : Int) (na : Option Addr) (nn nc : Nat) (tg : Int) (w : World) : Calls Try.prog 21 #[.agg #[.int .i64 s, .slice na nn nc, .int .i64 tg]] w fun e w' => e = .returned (.int .i64 s) ∧ Below w.heap.size w w' := by
  have hB : Below w.heap.size w (w.alloc (.cells #[.int .i64 s, .slice na nn nc, .int .i64 tg] 28)) := (Below.refl _ w).alloc (Nat.le_refl _) _
  have hs := hid_of (rstamp_any s na nn nc tg (w.alloc (.cells #[.int .i64 s, .slice na nn nc, .int .i64 tg] 28)))
  replace hB := hid_of hB
  have hm := meth_stamp
  have hi := mk_root
  go_enter_defers Try.func21, Try.ntmps21
  go_wp2_with fail
  refine hs.out.mono ?_
  rintro e W2 ⟨rfl, hB2⟩
  have hB3 : Hid (Below w.heap.size w W2) := hB.out.trans (hB2.mono hB.out.size)
  clear hs hB hB2
  go_wp2_with fail
  refine leaves_cons (f := 39) (args := #[]) (by simp) (by simp [go_sem]) ?_
  refine (catch_idle _).mono ?_
  rintro e u' w3 ⟨rfl, rfl, rfl⟩
  simp [Leaves, settle, results, Try.results21, go_sem]
  exact hB3.out
section
variable {lo : Nat} {w : World} {x : Kx} {v : Kv}
set_option maxRecDepth 100000 in
theorem has_any (h : KS lo w x v) : Calls Try.prog 18 #[.pointer (some ⟨x.kb, 0, none⟩), .int .i64 0] w fun e w' => e = .returned (.bool true) ∧ w' = w := by
  obtain ⟨-, -, c2, -⟩ := cells4 h.k
  clear h
  go_enter Try.func18, Try.ntmps18
  go_wp2
  go_ret
  exact ⟨rfl, rfl⟩
set_option maxRecDepth 100000 in
set_option maxHeartbeats 1000000 in
theorem unpin_any (h : KS lo w x v) : Calls Try.prog 6 #[.pointer (some ⟨x.kb, 0, none⟩), .pointer none, .int .i64 0] w fun e w' => e = .returned (.tuple #[]) ∧ KS lo w' x { v with a := 0 } ∧ FH hot3 lo w w' := by
  obtain ⟨-, -, c2, -⟩ := cells4 h.k
  obtain ⟨d0, -⟩ := cells2 h.p
  obtain ⟨vb, a1, a2⟩ := h.p0
  have hh := hid_of (has_any h)
  have hs := hid_of (iset_any x.q0 vb 4 1 0 w a1)
  replace h := hid_of h
  clear a1 a2
  go_enter Try.func6, Try.ntmps6
  go_wp2_with fail
  refine hh.out.mono ?_
  rintro e W2 ⟨rfl, hz⟩
  obtain rfl : w = W2 := hz.symm
  clear hh hz
  go_wp2_with fail
  refine hs.out.mono ?_
  rintro e W3 ⟨rfl, hF, vb2, -, k1, k2⟩
  have hfin := hid_of (h.out.setP hF k1 k2)
  clear hs hF k1 k2 h
  go_wp2_with fail
  exact bodyPost_end (results_none rfl _ _ _) rfl ⟨rfl, hfin.out⟩
theorem cnt_of (cnt : Int) (la : Option Addr) (n m : Nat) (w : World) : (Instr.field 49 (.agg #[.int .i64 cnt, .slice la n m]) 0).run Try.prog w = .ok (.int .i64 cnt) w := by kernel_rfl
set_option maxRecDepth 100000 in
set_option maxHeartbeats 1000000 in
theorem retired_any (h : KS lo w x v) : Calls Try.prog 12 #[.pointer (some ⟨x.kb, 0, none⟩)] w fun e w' => e = .returned (.int .i64 v.cnt) ∧ Below w.heap.size w w' := by
  obtain ⟨-, -, -, c3⟩ := cells4 h.k
  have hg := hid_of (lget_any x.lb 4 3 v.cnt v.la v.ln v.lc w h.l)
  have hc := cnt_of v.cnt v.la v.ln v.lc
  clear h
  go_enter Try.func12, Try.ntmps12
  go_wp2_with fail
  refine hg.out.mono ?_
  rintro e W2 ⟨rfl, hB⟩
  replace hB := hid_of hB
  clear hg
  go_wp2_with fail
  go_ret
  exact ⟨rfl, hB.out⟩
end
end Go.Proofs.Ytloeongljbgmnaa
