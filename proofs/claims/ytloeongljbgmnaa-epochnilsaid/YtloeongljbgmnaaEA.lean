import Derived.Test.YtloeongljbgmnaaHC
/-! epoch: steps of nobody: atomics, the list. -/
namespace Go.Proofs.Ytloeongljbgmnaa
open Go Go.RowKit
set_option maxRecDepth 100000 in
set_option maxHeartbeats 1000000 in
/-- What is done in a step of nobody is done at once. -/
theorem cstep_rg (k a b : Int) (p q : Addr) (R : World → World → Prop) (w : World) (hn : ∀ w', Below w.heap.size w w' → Calls Try.prog 37 #[.pointer (some p), .pointer (some q)] w' fun e w2 => e = .returned (.tuple #[]) ∧ R w' w2) :
    Calls Try.prog 58 #[.pointer none, .agg #[.int .i64 k, .int .i64 a, .int .i64 b], .nilFunc, .func (.func 37) #[] #[.pointer (some p), .pointer (some q)]] w fun e w2 => e = .returned (.tuple #[]) ∧ ∃ w', Below w.heap.size w w' ∧ R w' w2 := by
  have hB : Below w.heap.size w (w.alloc (.cells #[.int .i64 k, .int .i64 a, .int .i64 b] 146)) := (Below.refl _ w).alloc (Nat.le_refl _) _
  have hn1 := hid_of (hn _ hB)
  have hne := do_ne 37 #[.pointer (some p), .pointer (some q)]
  replace hB := hid_of hB
  clear hn
  go_enter Try.func58, Try.ntmps58
  go_wp2_with fail
  refine hn1.out.mono ?_
  rintro e W2 ⟨rfl, hR⟩
  go_wp2
  exact bodyPost_end (results_none rfl _ _ _) rfl ⟨rfl, _, hB.out, hR⟩
set_option maxRecDepth 100000 in
set_option maxHeartbeats 1000000 in
/-- An access by nobody in a world that is not real. -/
theorem access_rg (b : Nat) (k obj num : Int) (p q : Addr) (R : World → World → Prop) (w : World) (h0 : w.cell? ⟨b, 0, none⟩ = some (.bool false)) (h1 : w.cell? ⟨b, 1, none⟩ = some (.int .i64 obj)) (h2 : w.cell? ⟨b, 2, none⟩ = some (.int .i64 num)) (hn : ∀ w', Below w.heap.size w w' → Calls Try.prog 37 #[.pointer (some p), .pointer (some q)] w' fun e w2 => e = .returned (.tuple #[]) ∧ R w' w2) :
    Calls Try.prog 35 #[.pointer (some ⟨b, 0, none⟩), .pointer none, .int .i64 k, .func (.func 37) #[] #[.pointer (some p), .pointer (some q)]] w fun e w2 => e = .returned (.tuple #[]) ∧ ∃ w', Below w.heap.size w w' ∧ R w' w2 := by
  have hs := hid_of (step_any b 0 k obj num w h1 h2)
  replace hn := hid_of hn
  go_enter Try.func35, Try.ntmps35
  go_wp2_with fail
  refine hs.out.mono ?_
  rintro e W1 ⟨rfl, hB1⟩
  have hc := hid_of (cstep_rg k obj num p q R W1 (fun w' hB => hn.out w' (hB1.trans (hB.mono hB1.size))))
  replace hB1 := hid_of hB1
  clear hn hs h0 h1 h2
  go_wp2_with fail
  refine hc.out.mono ?_
  rintro e W2 ⟨rfl, w', hB, hR⟩
  go_wp2
  exact bodyPost_end (results_none rfl _ _ _) rfl ⟨rfl, w', hB1.out.trans (hB.mono hB1.out.size), hR⟩
set_option maxRecDepth 100000 in
set_option maxHeartbeats 1000000 in
/-- What is done in a step of nobody is done at once. -/
theorem cstep_rs (k a b : Int) (p q : Addr) (R : World → World → Prop) (w : World) (hn : ∀ w', Below w.heap.size w w' → Calls Try.prog 40 #[.pointer (some p), .pointer (some q)] w' fun e w2 => e = .returned (.tuple #[]) ∧ R w' w2) :
    Calls Try.prog 58 #[.pointer none, .agg #[.int .i64 k, .int .i64 a, .int .i64 b], .nilFunc, .func (.func 40) #[] #[.pointer (some p), .pointer (some q)]] w fun e w2 => e = .returned (.tuple #[]) ∧ ∃ w', Below w.heap.size w w' ∧ R w' w2 := by
  have hB : Below w.heap.size w (w.alloc (.cells #[.int .i64 k, .int .i64 a, .int .i64 b] 146)) := (Below.refl _ w).alloc (Nat.le_refl _) _
  have hn1 := hid_of (hn _ hB)
  have hne := do_ne 40 #[.pointer (some p), .pointer (some q)]
  replace hB := hid_of hB
  clear hn
  go_enter Try.func58, Try.ntmps58
  go_wp2_with fail
  refine hn1.out.mono ?_
  rintro e W2 ⟨rfl, hR⟩
  go_wp2
  exact bodyPost_end (results_none rfl _ _ _) rfl ⟨rfl, _, hB.out, hR⟩
set_option maxRecDepth 100000 in
set_option maxHeartbeats 1000000 in
/-- An access by nobody in a world that is not real. -/
theorem access_rs (b : Nat) (k obj num : Int) (p q : Addr) (R : World → World → Prop) (w : World) (h0 : w.cell? ⟨b, 0, none⟩ = some (.bool false)) (h1 : w.cell? ⟨b, 1, none⟩ = some (.int .i64 obj)) (h2 : w.cell? ⟨b, 2, none⟩ = some (.int .i64 num)) (hn : ∀ w', Below w.heap.size w w' → Calls Try.prog 40 #[.pointer (some p), .pointer (some q)] w' fun e w2 => e = .returned (.tuple #[]) ∧ R w' w2) :
    Calls Try.prog 35 #[.pointer (some ⟨b, 0, none⟩), .pointer none, .int .i64 k, .func (.func 40) #[] #[.pointer (some p), .pointer (some q)]] w fun e w2 => e = .returned (.tuple #[]) ∧ ∃ w', Below w.heap.size w w' ∧ R w' w2 := by
  have hs := hid_of (step_any b 0 k obj num w h1 h2)
  replace hn := hid_of hn
  go_enter Try.func35, Try.ntmps35
  go_wp2_with fail
  refine hs.out.mono ?_
  rintro e W1 ⟨rfl, hB1⟩
  have hc := hid_of (cstep_rs k obj num p q R W1 (fun w' hB => hn.out w' (hB1.trans (hB.mono hB1.size))))
  replace hB1 := hid_of hB1
  clear hn hs h0 h1 h2
  go_wp2_with fail
  refine hc.out.mono ?_
  rintro e W2 ⟨rfl, w', hB, hR⟩
  go_wp2
  exact bodyPost_end (results_none rfl _ _ _) rfl ⟨rfl, w', hB1.out.trans (hB.mono hB1.out.size), hR⟩
set_option maxRecDepth 100000 in
set_option maxHeartbeats 1000000 in
/-- What is done in a step of nobody is done at once. -/
theorem cstep_ig (k a b : Int) (p q : Addr) (R : World → World → Prop) (w : World) (hn : ∀ w', Below w.heap.size w w' → Calls Try.prog 66 #[.pointer (some p), .pointer (some q)] w' fun e w2 => e = .returned (.tuple #[]) ∧ R w' w2) :
    Calls Try.prog 58 #[.pointer none, .agg #[.int .i64 k, .int .i64 a, .int .i64 b], .nilFunc, .func (.func 66) #[] #[.pointer (some p), .pointer (some q)]] w fun e w2 => e = .returned (.tuple #[]) ∧ ∃ w', Below w.heap.size w w' ∧ R w' w2 := by
  have hB : Below w.heap.size w (w.alloc (.cells #[.int .i64 k, .int .i64 a, .int .i64 b] 146)) := (Below.refl _ w).alloc (Nat.le_refl _) _
  have hn1 := hid_of (hn _ hB)
  have hne := do_ne 66 #[.pointer (some p), .pointer (some q)]
  replace hB := hid_of hB
  clear hn
  go_enter Try.func58, Try.ntmps58
  go_wp2_with fail
  refine hn1.out.mono ?_
  rintro e W2 ⟨rfl, hR⟩
  go_wp2
  exact bodyPost_end (results_none rfl _ _ _) rfl ⟨rfl, _, hB.out, hR⟩
set_option maxRecDepth 100000 in
set_option maxHeartbeats 1000000 in
/-- An access by nobody in a world that is not real. -/
theorem access_ig (b : Nat) (k obj num : Int) (p q : Addr) (R : World → World → Prop) (w : World) (h0 : w.cell? ⟨b, 0, none⟩ = some (.bool false)) (h1 : w.cell? ⟨b, 1, none⟩ = some (.int .i64 obj)) (h2 : w.cell? ⟨b, 2, none⟩ = some (.int .i64 num)) (hn : ∀ w', Below w.heap.size w w' → Calls Try.prog 66 #[.pointer (some p), .pointer (some q)] w' fun e w2 => e = .returned (.tuple #[]) ∧ R w' w2) :
    Calls Try.prog 35 #[.pointer (some ⟨b, 0, none⟩), .pointer none, .int .i64 k, .func (.func 66) #[] #[.pointer (some p), .pointer (some q)]] w fun e w2 => e = .returned (.tuple #[]) ∧ ∃ w', Below w.heap.size w w' ∧ R w' w2 := by
  have hs := hid_of (step_any b 0 k obj num w h1 h2)
  replace hn := hid_of hn
  go_enter Try.func35, Try.ntmps35
  go_wp2_with fail
  refine hs.out.mono ?_
  rintro e W1 ⟨rfl, hB1⟩
  have hc := hid_of (cstep_ig k obj num p q R W1 (fun w' hB => hn.out w' (hB1.trans (hB.mono hB1.size))))
  replace hB1 := hid_of hB1
  clear hn hs h0 h1 h2
  go_wp2_with fail
  refine hc.out.mono ?_
  rintro e W2 ⟨rfl, w', hB, hR⟩
  go_wp2
  exact bodyPost_end (results_none rfl _ _ _) rfl ⟨rfl, w', hB1.out.trans (hB.mono hB1.out.size), hR⟩
set_option maxRecDepth 100000 in
set_option maxHeartbeats 1000000 in
/-- What is done in a step of nobody is done at once. -/
theorem cstep_is (k a b : Int) (p q : Addr) (R : World → World → Prop) (w : World) (hn : ∀ w', Below w.heap.size w w' → Calls Try.prog 36 #[.pointer (some p), .pointer (some q)] w' fun e w2 => e = .returned (.tuple #[]) ∧ R w' w2) :
    Calls Try.prog 58 #[.pointer none, .agg #[.int .i64 k, .int .i64 a, .int .i64 b], .nilFunc, .func (.func 36) #[] #[.pointer (some p), .pointer (some q)]] w fun e w2 => e = .returned (.tuple #[]) ∧ ∃ w', Below w.heap.size w w' ∧ R w' w2 := by
  have hB : Below w.heap.size w (w.alloc (.cells #[.int .i64 k, .int .i64 a, .int .i64 b] 146)) := (Below.refl _ w).alloc (Nat.le_refl _) _
  have hn1 := hid_of (hn _ hB)
  have hne := do_ne 36 #[.pointer (some p), .pointer (some q)]
  replace hB := hid_of hB
  clear hn
  go_enter Try.func58, Try.ntmps58
  go_wp2_with fail
  refine hn1.out.mono ?_
  rintro e W2 ⟨rfl, hR⟩
  go_wp2
  exact bodyPost_end (results_none rfl _ _ _) rfl ⟨rfl, _, hB.out, hR⟩
set_option maxRecDepth 100000 in
set_option maxHeartbeats 1000000 in
/-- An access by nobody in a world that is not real. -/
theorem access_is (b : Nat) (k obj num : Int) (p q : Addr) (R : World → World → Prop) (w : World) (h0 : w.cell? ⟨b, 0, none⟩ = some (.bool false)) (h1 : w.cell? ⟨b, 1, none⟩ = some (.int .i64 obj)) (h2 : w.cell? ⟨b, 2, none⟩ = some (.int .i64 num)) (hn : ∀ w', Below w.heap.size w w' → Calls Try.prog 36 #[.pointer (some p), .pointer (some q)] w' fun e w2 => e = .returned (.tuple #[]) ∧ R w' w2) :
    Calls Try.prog 35 #[.pointer (some ⟨b, 0, none⟩), .pointer none, .int .i64 k, .func (.func 36) #[] #[.pointer (some p), .pointer (some q)]] w fun e w2 => e = .returned (.tuple #[]) ∧ ∃ w', Below w.heap.size w w' ∧ R w' w2 := by
  have hs := hid_of (step_any b 0 k obj num w h1 h2)
  replace hn := hid_of hn
  go_enter Try.func35, Try.ntmps35
  go_wp2_with fail
  refine hs.out.mono ?_
  rintro e W1 ⟨rfl, hB1⟩
  have hc := hid_of (cstep_is k obj num p q R W1 (fun w' hB => hn.out w' (hB1.trans (hB.mono hB1.size))))
  replace hB1 := hid_of hB1
  clear hn hs h0 h1 h2
  go_wp2_with fail
  refine hc.out.mono ?_
  rintro e W2 ⟨rfl, w', hB, hR⟩
  go_wp2
  exact bodyPost_end (results_none rfl _ _ _) rfl ⟨rfl, w', hB1.out.trans (hB.mono hB1.out.size), hR⟩
set_option maxRecDepth 100000 in
set_option maxHeartbeats 1000000 in
/-- What is done in a step of nobody is done at once. -/
theorem cstep_lg (k a b : Int) (p q : Addr) (R : World → World → Prop) (w : World) (hn : ∀ w', Below w.heap.size w w' → Calls Try.prog 41 #[.pointer (some p), .pointer (some q)] w' fun e w2 => e = .returned (.tuple #[]) ∧ R w' w2) :
    Calls Try.prog 58 #[.pointer none, .agg #[.int .i64 k, .int .i64 a, .int .i64 b], .nilFunc, .func (.func 41) #[] #[.pointer (some p), .pointer (some q)]] w fun e w2 => e = .returned (.tuple #[]) ∧ ∃ w', Below w.heap.size w w' ∧ R w' w2 := by
  have hB : Below w.heap.size w (w.alloc (.cells #[.int .i64 k, .int .i64 a, .int .i64 b] 146)) := (Below.refl _ w).alloc (Nat.le_refl _) _
  have hn1 := hid_of (hn _ hB)
  have hne := do_ne 41 #[.pointer (some p), .pointer (some q)]
  replace hB := hid_of hB
  clear hn
  go_enter Try.func58, Try.ntmps58
  go_wp2_with fail
  refine hn1.out.mono ?_
  rintro e W2 ⟨rfl, hR⟩
  go_wp2
  exact bodyPost_end (results_none rfl _ _ _) rfl ⟨rfl, _, hB.out, hR⟩
set_option maxRecDepth 100000 in
set_option maxHeartbeats 1000000 in
/-- An access by nobody in a world that is not real. -/
theorem access_lg (b : Nat) (k obj num : Int) (p q : Addr) (R : World → World → Prop) (w : World) (h0 : w.cell? ⟨b, 0, none⟩ = some (.bool false)) (h1 : w.cell? ⟨b, 1, none⟩ = some (.int .i64 obj)) (h2 : w.cell? ⟨b, 2, none⟩ = some (.int .i64 num)) (hn : ∀ w', Below w.heap.size w w' → Calls Try.prog 41 #[.pointer (some p), .pointer (some q)] w' fun e w2 => e = .returned (.tuple #[]) ∧ R w' w2) :
    Calls Try.prog 35 #[.pointer (some ⟨b, 0, none⟩), .pointer none, .int .i64 k, .func (.func 41) #[] #[.pointer (some p), .pointer (some q)]] w fun e w2 => e = .returned (.tuple #[]) ∧ ∃ w', Below w.heap.size w w' ∧ R w' w2 := by
  have hs := hid_of (step_any b 0 k obj num w h1 h2)
  replace hn := hid_of hn
  go_enter Try.func35, Try.ntmps35
  go_wp2_with fail
  refine hs.out.mono ?_
  rintro e W1 ⟨rfl, hB1⟩
  have hc := hid_of (cstep_lg k obj num p q R W1 (fun w' hB => hn.out w' (hB1.trans (hB.mono hB1.size))))
  replace hB1 := hid_of hB1
  clear hn hs h0 h1 h2
  go_wp2_with fail
  refine hc.out.mono ?_
  rintro e W2 ⟨rfl, w', hB, hR⟩
  go_wp2
  exact bodyPost_end (results_none rfl _ _ _) rfl ⟨rfl, w', hB1.out.trans (hB.mono hB1.out.size), hR⟩
set_option maxRecDepth 100000 in
set_option maxHeartbeats 1000000 in
/-- What is done in a step of nobody is done at once. -/
theorem cstep_ls (k a b : Int) (p q : Addr) (R : World → World → Prop) (w : World) (hn : ∀ w', Below w.heap.size w w' → Calls Try.prog 45 #[.pointer (some p), .pointer (some q)] w' fun e w2 => e = .returned (.tuple #[]) ∧ R w' w2) :
    Calls Try.prog 58 #[.pointer none, .agg #[.int .i64 k, .int .i64 a, .int .i64 b], .nilFunc, .func (.func 45) #[] #[.pointer (some p), .pointer (some q)]] w fun e w2 => e = .returned (.tuple #[]) ∧ ∃ w', Below w.heap.size w w' ∧ R w' w2 := by
  have hB : Below w.heap.size w (w.alloc (.cells #[.int .i64 k, .int .i64 a, .int .i64 b] 146)) := (Below.refl _ w).alloc (Nat.le_refl _) _
  have hn1 := hid_of (hn _ hB)
  have hne := do_ne 45 #[.pointer (some p), .pointer (some q)]
  replace hB := hid_of hB
  clear hn
  go_enter Try.func58, Try.ntmps58
  go_wp2_with fail
  refine hn1.out.mono ?_
  rintro e W2 ⟨rfl, hR⟩
  go_wp2
  exact bodyPost_end (results_none rfl _ _ _) rfl ⟨rfl, _, hB.out, hR⟩
set_option maxRecDepth 100000 in
set_option maxHeartbeats 1000000 in
/-- An access by nobody in a world that is not real. -/
theorem access_ls (b : Nat) (k obj num : Int) (p q : Addr) (R : World → World → Prop) (w : World) (h0 : w.cell? ⟨b, 0, none⟩ = some (.bool false)) (h1 : w.cell? ⟨b, 1, none⟩ = some (.int .i64 obj)) (h2 : w.cell? ⟨b, 2, none⟩ = some (.int .i64 num)) (hn : ∀ w', Below w.heap.size w w' → Calls Try.prog 45 #[.pointer (some p), .pointer (some q)] w' fun e w2 => e = .returned (.tuple #[]) ∧ R w' w2) :
    Calls Try.prog 35 #[.pointer (some ⟨b, 0, none⟩), .pointer none, .int .i64 k, .func (.func 45) #[] #[.pointer (some p), .pointer (some q)]] w fun e w2 => e = .returned (.tuple #[]) ∧ ∃ w', Below w.heap.size w w' ∧ R w' w2 := by
  have hs := hid_of (step_any b 0 k obj num w h1 h2)
  replace hn := hid_of hn
  go_enter Try.func35, Try.ntmps35
  go_wp2_with fail
  refine hs.out.mono ?_
  rintro e W1 ⟨rfl, hB1⟩
  have hc := hid_of (cstep_ls k obj num p q R W1 (fun w' hB => hn.out w' (hB1.trans (hB.mono hB1.size))))
  replace hB1 := hid_of hB1
  clear hn hs h0 h1 h2
  go_wp2_with fail
  refine hc.out.mono ?_
  rintro e W2 ⟨rfl, w', hB, hR⟩
  go_wp2
  exact bodyPost_end (results_none rfl _ _ _) rfl ⟨rfl, w', hB1.out.trans (hB.mono hB1.out.size), hR⟩
end Go.Proofs.Ytloeongljbgmnaa
