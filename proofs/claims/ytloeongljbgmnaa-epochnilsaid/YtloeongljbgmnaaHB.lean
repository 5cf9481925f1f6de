import Derived.Test.YtloeongljbgmnaaHA
/-! heap: worlds, places, steps of nobody. -/
namespace Go.Proofs.Ytloeongljbgmnaa
open Go Go.RowKit
theorem cell_of {w : World} {b k : Nat} {cs : Array Value} {t : TypeId} {v : Value} (h : w.heap[b]? = some (.cells cs t (0, 0))) (hk : cs[k]? = some v) : w.cell? ⟨b, k, none⟩ = some v := by simp [World.cell?, h, hk]
theorem warm {w : World} {b k : Nat} {cs : Array Value} {t : TypeId} (h : w.heap[b]? = some (.cells cs t (0, 0))) : w.frozen? ⟨b, k, none⟩ = false := by simp [World.frozen?, h]
theorem scripted_any (w : World) : Calls Try.prog 5 #[] w fun e w' => e = .returned (.pointer (some ⟨w.heap.size, 0, none⟩)) ∧ w' = w.alloc (.cells #[.bool false] 55) := by
  go_enter Try.func5, Try.ntmps5
  go_wp2
  go_ret
  exact ⟨rfl, rfl⟩
theorem isreal_any (wb : Nat) (w : World) (h : w.cell? ⟨wb, 0, none⟩ = some (.bool false)) : Calls Try.prog 56 #[.pointer (some ⟨wb, 0, none⟩)] w fun e w' => e = .returned (.bool false) ∧ w' = w := by
  go_enter Try.func56, Try.ntmps56
  go_wp2
  go_ret
  exact ⟨rfl, rfl⟩
theorem place_any (wb : Nat) (o n : Int) (w : World) (h : w.cell? ⟨wb, 0, none⟩ = some (.bool false)) : Calls Try.prog 32 #[.pointer (some ⟨wb, 0, none⟩), .int .i64 o, .int .i64 n] w fun e w' => e = .returned (.agg #[.bool false, .int .i64 o, .int .i64 n]) ∧ Below w.heap.size w w' := by
  have hB : Below w.heap.size w (w.alloc (.cells #[.bool false, .int .i64 0, .int .i64 0] 84)) := (Below.refl _ w).alloc (Nat.le_refl _) _
  have hi := hid_of (isreal_any wb _ (stay hB h))
  replace hB := hid_of hB
  go_enter Try.func32, Try.ntmps32
  go_wp2_with fail
  refine hi.out.mono ?_
  rintro e W2 ⟨rfl, rfl⟩
  clear hi
  go_wp2
  refine bodyPost_ret (v := .agg #[.bool false, .int .i64 o, .int .i64 n]) (by simp [results, Try.results32, go_sem]) rfl ⟨rfl, ?_⟩
  exact (Below.refl _ w).alloc (Nat.le_refl _) _
set_option maxHeartbeats 1000000 in
theorem step_any (b o : Nat) (k obj num : Int) (w : World) (h1 : w.cell? ⟨b, o + 1, none⟩ = some (.int .i64 obj)) (h2 : w.cell? ⟨b, o + 2, none⟩ = some (.int .i64 num)) :
    Calls Try.prog 59 #[.pointer (some ⟨b, o, none⟩), .int .i64 k] w fun e w' => e = .returned (.agg #[.int .i64 k, .int .i64 obj, .int .i64 num]) ∧ Below w.heap.size w w' := by
  have hB : Below w.heap.size w (w.alloc (.cells #[.int .i64 0, .int .i64 0, .int .i64 0] 146)) := (Below.refl _ w).alloc (Nat.le_refl _) _
  replace h1 := stay hB h1
  replace h2 := stay hB h2
  clear hB
  go_enter Try.func59, Try.ntmps59
  go_wp2
  go_region
  go_wp2
  exact bodyPost_ret (v := .agg #[.int .i64 k, .int .i64 obj, .int .i64 num]) (by simp [results, Try.results59, go_sem]) rfl ⟨rfl, below_drew ((Below.refl _ w).alloc (Nat.le_refl _) _)⟩
theorem do_ne (n : FuncId) (cap : Array Value) (w : World) : (binOp .neq 1 (.func (.func n) #[] cap) .nilFunc).run Try.prog w = .ok (.bool true) w := by kernel_rfl
set_option maxRecDepth 100000 in
set_option maxHeartbeats 1000000 in
/-- What is done in a step of nobody is done at once. -/
theorem cstep_ng (k a b : Int) (p q : Addr) (R : World → World → Prop) (w : World) (hn : ∀ w', Below w.heap.size w w' → Calls Try.prog 114 #[.pointer (some p), .pointer (some q)] w' fun e w2 => e = .returned (.tuple #[]) ∧ R w' w2) :
    Calls Try.prog 58 #[.pointer none, .agg #[.int .i64 k, .int .i64 a, .int .i64 b], .nilFunc, .func (.func 114) #[] #[.pointer (some p), .pointer (some q)]] w fun e w2 => e = .returned (.tuple #[]) ∧ ∃ w', Below w.heap.size w w' ∧ R w' w2 := by
  have hB : Below w.heap.size w (w.alloc (.cells #[.int .i64 k, .int .i64 a, .int .i64 b] 146)) := (Below.refl _ w).alloc (Nat.le_refl _) _
  have hn1 := hid_of (hn _ hB)
  have hne := do_ne 114 #[.pointer (some p), .pointer (some q)]
  replace hB := hid_of hB
  clear hn
  go_enter Try.func58, Try.ntmps58
  go_wp2_with fail
  refine hn1.out.mono ?_
  rintro e W2 ⟨rfl, hR⟩
  go_wp2
  exact bodyPost_end (results_none rfl _ _ _) rfl ⟨rfl, _, hB.out, hR⟩
set_option maxRecDepth 100000 in
set_option maxHeartbeats 1000000 in
/-- An access by nobody in a world that is not real. -/
theorem access_ng (b : Nat) (k obj num : Int) (p q : Addr) (R : World → World → Prop) (w : World) (h0 : w.cell? ⟨b, 0, none⟩ = some (.bool false)) (h1 : w.cell? ⟨b, 1, none⟩ = some (.int .i64 obj)) (h2 : w.cell? ⟨b, 2, none⟩ = some (.int .i64 num)) (hn : ∀ w', Below w.heap.size w w' → Calls Try.prog 114 #[.pointer (some p), .pointer (some q)] w' fun e w2 => e = .returned (.tuple #[]) ∧ R w' w2) :
    Calls Try.prog 35 #[.pointer (some ⟨b, 0, none⟩), .pointer none, .int .i64 k, .func (.func 114) #[] #[.pointer (some p), .pointer (some q)]] w fun e w2 => e = .returned (.tuple #[]) ∧ ∃ w', Below w.heap.size w w' ∧ R w' w2 := by
  have hs := hid_of (step_any b 0 k obj num w h1 h2)
  replace hn := hid_of hn
  go_enter Try.func35, Try.ntmps35
  go_wp2_with fail
  refine hs.out.mono ?_
  rintro e W1 ⟨rfl, hB1⟩
  have hc := hid_of (cstep_ng k obj num p q R W1 (fun w' hB => hn.out w' (hB1.trans (hB.mono hB1.size))))
  replace hB1 := hid_of hB1
  clear hn hs h0 h1 h2
  go_wp2_with fail
  refine hc.out.mono ?_
  rintro e W2 ⟨rfl, w', hB, hR⟩
  go_wp2
  exact bodyPost_end (results_none rfl _ _ _) rfl ⟨rfl, w', hB1.out.trans (hB.mono hB1.out.size), hR⟩
set_option maxRecDepth 100000 in
set_option maxHeartbeats 1000000 in
/-- What is done in a step of nobody is done at once. -/
theorem cstep_ns (k a b : Int) (p q : Addr) (R : World → World → Prop) (w : World) (hn : ∀ w', Below w.heap.size w w' → Calls Try.prog 115 #[.pointer (some p), .pointer (some q)] w' fun e w2 => e = .returned (.tuple #[]) ∧ R w' w2) :
    Calls Try.prog 58 #[.pointer none, .agg #[.int .i64 k, .int .i64 a, .int .i64 b], .nilFunc, .func (.func 115) #[] #[.pointer (some p), .pointer (some q)]] w fun e w2 => e = .returned (.tuple #[]) ∧ ∃ w', Below w.heap.size w w' ∧ R w' w2 := by
  have hB : Below w.heap.size w (w.alloc (.cells #[.int .i64 k, .int .i64 a, .int .i64 b] 146)) := (Below.refl _ w).alloc (Nat.le_refl _) _
  have hn1 := hid_of (hn _ hB)
  have hne := do_ne 115 #[.pointer (some p), .pointer (some q)]
  replace hB := hid_of hB
  clear hn
  go_enter Try.func58, Try.ntmps58
  go_wp2_with fail
  refine hn1.out.mono ?_
  rintro e W2 ⟨rfl, hR⟩
  go_wp2
  exact bodyPost_end (results_none rfl _ _ _) rfl ⟨rfl, _, hB.out, hR⟩
set_option maxRecDepth 100000 in
set_option maxHeartbeats 1000000 in
/-- An access by nobody in a world that is not real. -/
theorem access_ns (b : Nat) (k obj num : Int) (p q : Addr) (R : World → World → Prop) (w : World) (h0 : w.cell? ⟨b, 0, none⟩ = some (.bool false)) (h1 : w.cell? ⟨b, 1, none⟩ = some (.int .i64 obj)) (h2 : w.cell? ⟨b, 2, none⟩ = some (.int .i64 num)) (hn : ∀ w', Below w.heap.size w w' → Calls Try.prog 115 #[.pointer (some p), .pointer (some q)] w' fun e w2 => e = .returned (.tuple #[]) ∧ R w' w2) :
    Calls Try.prog 35 #[.pointer (some ⟨b, 0, none⟩), .pointer none, .int .i64 k, .func (.func 115) #[] #[.pointer (some p), .pointer (some q)]] w fun e w2 => e = .returned (.tuple #[]) ∧ ∃ w', Below w.heap.size w w' ∧ R w' w2 := by
  have hs := hid_of (step_any b 0 k obj num w h1 h2)
  replace hn := hid_of hn
  go_enter Try.func35, Try.ntmps35
  go_wp2_with fail
  refine hs.out.mono ?_
  rintro e W1 ⟨rfl, hB1⟩
  have hc := hid_of (cstep_ns k obj num p q R W1 (fun w' hB => hn.out w' (hB1.trans (hB.mono hB1.size))))
  replace hB1 := hid_of hB1
  clear hn hs h0 h1 h2
  go_wp2_with fail
  refine hc.out.mono ?_
  rintro e W2 ⟨rfl, w', hB, hR⟩
  go_wp2
  exact bodyPost_end (results_none rfl _ _ _) rfl ⟨rfl, w', hB1.out.trans (hB.mono hB1.out.size), hR⟩
set_option maxRecDepth 100000 in
set_option maxHeartbeats 1000000 in
/-- What is done in a step of nobody is done at once. -/
theorem cstep_pg (k a b : Int) (p q : Addr) (R : World → World → Prop) (w : World) (hn : ∀ w', Below w.heap.size w w' → Calls Try.prog 79 #[.pointer (some p), .pointer (some q)] w' fun e w2 => e = .returned (.tuple #[]) ∧ R w' w2) :
    Calls Try.prog 58 #[.pointer none, .agg #[.int .i64 k, .int .i64 a, .int .i64 b], .nilFunc, .func (.func 79) #[] #[.pointer (some p), .pointer (some q)]] w fun e w2 => e = .returned (.tuple #[]) ∧ ∃ w', Below w.heap.size w w' ∧ R w' w2 := by
  have hB : Below w.heap.size w (w.alloc (.cells #[.int .i64 k, .int .i64 a, .int .i64 b] 146)) := (Below.refl _ w).alloc (Nat.le_refl _) _
  have hn1 := hid_of (hn _ hB)
  have hne := do_ne 79 #[.pointer (some p), .pointer (some q)]
  replace hB := hid_of hB
  clear hn
  go_enter Try.func58, Try.ntmps58
  go_wp2_with fail
  refine hn1.out.mono ?_
  rintro e W2 ⟨rfl, hR⟩
  go_wp2
  exact bodyPost_end (results_none rfl _ _ _) rfl ⟨rfl, _, hB.out, hR⟩
set_option maxRecDepth 100000 in
set_option maxHeartbeats 1000000 in
/-- An access by nobody in a world that is not real. -/
theorem access_pg (b : Nat) (k obj num : Int) (p q : Addr) (R : World → World → Prop) (w : World) (h0 : w.cell? ⟨b, 0, none⟩ = some (.bool false)) (h1 : w.cell? ⟨b, 1, none⟩ = some (.int .i64 obj)) (h2 : w.cell? ⟨b, 2, none⟩ = some (.int .i64 num)) (hn : ∀ w', Below w.heap.size w w' → Calls Try.prog 79 #[.pointer (some p), .pointer (some q)] w' fun e w2 => e = .returned (.tuple #[]) ∧ R w' w2) :
    Calls Try.prog 35 #[.pointer (some ⟨b, 0, none⟩), .pointer none, .int .i64 k, .func (.func 79) #[] #[.pointer (some p), .pointer (some q)]] w fun e w2 => e = .returned (.tuple #[]) ∧ ∃ w', Below w.heap.size w w' ∧ R w' w2 := by
  have hs := hid_of (step_any b 0 k obj num w h1 h2)
  replace hn := hid_of hn
  go_enter Try.func35, Try.ntmps35
  go_wp2_with fail
  refine hs.out.mono ?_
  rintro e W1 ⟨rfl, hB1⟩
  have hc := hid_of (cstep_pg k obj num p q R W1 (fun w' hB => hn.out w' (hB1.trans (hB.mono hB1.size))))
  replace hB1 := hid_of hB1
  clear hn hs h0 h1 h2
  go_wp2_with fail
  refine hc.out.mono ?_
  rintro e W2 ⟨rfl, w', hB, hR⟩
  go_wp2
  exact bodyPost_end (results_none rfl _ _ _) rfl ⟨rfl, w', hB1.out.trans (hB.mono hB1.out.size), hR⟩
set_option maxRecDepth 100000 in
set_option maxHeartbeats 1000000 in
/-- What is done in a step of nobody is done at once. -/
theorem cstep_ps (k a b : Int) (p q : Addr) (R : World → World → Prop) (w : World) (hn : ∀ w', Below w.heap.size w w' → Calls Try.prog 78 #[.pointer (some p), .pointer (some q)] w' fun e w2 => e = .returned (.tuple #[]) ∧ R w' w2) :
    Calls Try.prog 58 #[.pointer none, .agg #[.int .i64 k, .int .i64 a, .int .i64 b], .nilFunc, .func (.func 78) #[] #[.pointer (some p), .pointer (some q)]] w fun e w2 => e = .returned (.tuple #[]) ∧ ∃ w', Below w.heap.size w w' ∧ R w' w2 := by
  have hB : Below w.heap.size w (w.alloc (.cells #[.int .i64 k, .int .i64 a, .int .i64 b] 146)) := (Below.refl _ w).alloc (Nat.le_refl _) _
  have hn1 := hid_of (hn _ hB)
  have hne := do_ne 78 #[.pointer (some p), .pointer (some q)]
  replace hB := hid_of hB
  clear hn
  go_enter Try.func58, Try.ntmps58
  go_wp2_with fail
  refine hn1.out.mono ?_
  rintro e W2 ⟨rfl, hR⟩
  go_wp2
  exact bodyPost_end (results_none rfl _ _ _) rfl ⟨rfl, _, hB.out, hR⟩
set_option maxRecDepth 100000 in
set_option maxHeartbeats 1000000 in
/-- An access by nobody in a world that is not real. -/
theorem access_ps (b : Nat) (k obj num : Int) (p q : Addr) (R : World → World → Prop) (w : World) (h0 : w.cell? ⟨b, 0, none⟩ = some (.bool false)) (h1 : w.cell? ⟨b, 1, none⟩ = some (.int .i64 obj)) (h2 : w.cell? ⟨b, 2, none⟩ = some (.int .i64 num)) (hn : ∀ w', Below w.heap.size w w' → Calls Try.prog 78 #[.pointer (some p), .pointer (some q)] w' fun e w2 => e = .returned (.tuple #[]) ∧ R w' w2) :
    Calls Try.prog 35 #[.pointer (some ⟨b, 0, none⟩), .pointer none, .int .i64 k, .func (.func 78) #[] #[.pointer (some p), .pointer (some q)]] w fun e w2 => e = .returned (.tuple #[]) ∧ ∃ w', Below w.heap.size w w' ∧ R w' w2 := by
  have hs := hid_of (step_any b 0 k obj num w h1 h2)
  replace hn := hid_of hn
  go_enter Try.func35, Try.ntmps35
  go_wp2_with fail
  refine hs.out.mono ?_
  rintro e W1 ⟨rfl, hB1⟩
  have hc := hid_of (cstep_ps k obj num p q R W1 (fun w' hB => hn.out w' (hB1.trans (hB.mono hB1.size))))
  replace hB1 := hid_of hB1
  clear hn hs h0 h1 h2
  go_wp2_with fail
  refine hc.out.mono ?_
  rintro e W2 ⟨rfl, w', hB, hR⟩
  go_wp2
  exact bodyPost_end (results_none rfl _ _ _) rfl ⟨rfl, w', hB1.out.trans (hB.mono hB1.out.size), hR⟩
end Go.Proofs.Ytloeongljbgmnaa
