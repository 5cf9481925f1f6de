import Derived.Test.YthgnkhpomhcdkaaGreatDoorUG
import Derived.Test.YthgnkhpomhcdkaaGreatDoorUC
/-! update: terms, their paths, whether they clash. -/
namespace Go.Proofs.YthgnkhpomhcdkaaGreatDoor
open Go Go.RowKit

theorem frozen_of {w : World} {g : Nat} {cs : Array Value} {t : TypeId} (h : w.heap[g]? = some (.cells cs t (0, 0))) (j : Nat) : w.frozen? ⟨g, j, none⟩ = false := by simp [World.frozen?, h]
abbrev pathV (g c : Nat) : Value := .slice (some ⟨g, 0, none⟩) 1 c
abbrev termV (g c : Nat) (f : Value) : Value := .iface 79 (.agg #[pathV g c, f])
set_option maxHeartbeats 1000000 in
set_option maxRecDepth 100000 in
theorem term_inc (g c b : Nat) (u : V5) (w : World) (hb : w.cell? ⟨b, 0, none⟩ = some (fn0 39)) :
    Calls Tryz.prog 70 #[pathV g c, u.v, .pointer (some ⟨b, 0, none⟩)] w fun e w' => Below w.heap.size w w' ∧ ∃ n, e = .returned (.tuple #[termV g c (incV n), .nilIface]) ∧ IncAt w' n u := by
  have ha := add_any u
  replace hb := cell_alloc' hb (u.obj 28)
  unfold V5.v at *
  unfold V5.obj at hb
  go_enter Tryz.func70, Tryz.ntmps70
  go_wp2_with fail
  refine (ha _).mono ?_
  rintro e w1 ⟨rfl, hb1, hI⟩
  have HB := hid_of (((Below.refl _ w).alloc (Nat.le_refl _) _).trans (hb1.mono (by simp)))
  clear hb1
  generalize (w.alloc (.cells #[.int .i64 u.k, .int .i64 u.x, .string u.s, .slice u.an u.ln u.cn, .slice u.ai u.li u.ci] 28)).heap.size = n at *
  replace hI := hid_of hI
  go_wp2_with fail
  go_ret2
  exact ⟨HB.out, n, rfl, hI.out⟩
set_option maxHeartbeats 1000000 in
set_option maxRecDepth 100000 in
theorem term_push (g c b : Nat) (t : Tr) (u : V5) (hk : u.k ≠ 6) (w : World) (hV : VRep w t u.cs) (hb : w.cell? ⟨b, 0, none⟩ = some (fn0 47)) :
    Calls Tryz.prog 70 #[pathV g c, u.v, .pointer (some ⟨b, 0, none⟩)] w fun e w' => Below w.heap.size w w' ∧ ∃ n c' bn bi, e = .returned (.tuple #[termV g c (enlV n), .nilIface]) ∧ PushAt w' n c' bn bi t := by
  have ha := push_plain t u hk _ (VRep.keep ((Below.refl _ w).alloc (Nat.le_refl _) (u.obj 28)) _ _ hV)
  replace hb := cell_alloc' hb (u.obj 28)
  unfold V5.v at *
  unfold V5.obj at hb ha
  go_enter Tryz.func70, Tryz.ntmps70
  go_wp2_with fail
  refine ha.mono ?_
  rintro e w1 ⟨hb1, n, c', bn, bi, rfl, hI⟩
  have HB := hid_of (((Below.refl _ w).alloc (Nat.le_refl _) _).trans (hb1.mono (by simp)))
  clear hb1 ha
  replace hI := hid_of hI
  go_wp2_with fail
  go_ret2
  exact ⟨HB.out, n, c', bn, bi, rfl, hI.out⟩
set_option maxHeartbeats 1000000 in
set_option maxRecDepth 100000 in
theorem pathsOf_any (g c : Nat) (m : Nat) (caps : Array Value) (w : World) :
    Calls Tryz.prog 22 #[termV g c (.func (.func m) #[] caps)] w fun e w' => Below w.heap.size w w' ∧ ∃ b, e = .returned (.slice (some ⟨b, 0, none⟩) 1 1) ∧ w'.cell? ⟨b, 0, none⟩ = some (pathV g c) := by
  have h1 : ∀ w, (Instr.typeAssert (termV g c (.func (.func m) #[] caps)) 55 79 true).run Tryz.prog w = .ok (.tuple #[.agg #[pathV g c, .func (.func m) #[] caps], .bool true]) w := fun w => by kernel_rfl
  have X0 := heap_alloc_new w (.cells #[pathV g c, .nilFunc] 79)
  have z1 : (w.alloc (.cells #[pathV g c, .nilFunc] 79)).cell? ⟨w.heap.size, 1, none⟩ = some .nilFunc := cell_of X0 1
  have f1 : (w.alloc (.cells #[pathV g c, .nilFunc] 79)).frozen? ⟨w.heap.size, 1, none⟩ = false := frozen_of X0 1
  go_enter Tryz.func22, Tryz.ntmps22
  go_wp2_with fail
  rw [run_store _ _ _ _ _ (by rfl), z1]
  simp only [f1]
  go_wp2_with fail
  go_ret
  exact ⟨((Below.refl _ w).alloc (Nat.le_refl _) _).alloc (by simp) _, _, rfl, cell_of (al_eq (by simp)) 0⟩
theorem byte0_not {a : ByteArray} (ha : 0 < a.size) (h1 : Dp.byteAt a 0 ≠ 36) : (((a[0]'ha).toNat : Int) == 36) = false := by
  have h := Dp.u8_beq (Dp.byteAt a 0) 36
  rw [Dp.byteAt_eq ha]
  refine Eq.trans h ?_
  simpa using h1
theorem means_not (a : ByteArray) (ha : 1 ≤ a.size) (h1 : Dp.byteAt a 0 ≠ 36) (w : World) : Calls Tryz.prog 134 #[.string a] w fun e w' => e = .returned (.bool false) ∧ w' = w := by
  have hb := byte0_not (show 0 < a.size by omega) h1
  replace h1 := hid_of h1
  go_enter Tryz.func134, Tryz.ntmps134
  go_wp2_with fail
  go_ret
  exact ⟨rfl, rfl⟩
set_option maxHeartbeats 1000000 in
theorem areLike_not (a b : ByteArray) (hne : a ≠ b) (ha : 1 ≤ a.size) (hb : 1 ≤ b.size) (h1 : Dp.byteAt a 0 ≠ 36) (h2 : Dp.byteAt b 0 ≠ 36) (w : World) : Calls Tryz.prog 246 #[.string a, .string b] w fun e w' => e = .returned (.bool false) ∧ w' = w := by
  have hl : (a.toList == b.toList) = false := by rw [str_beq]; simpa using hne
  replace hne := hid_of hne
  go_enter Tryz.func246, Tryz.ntmps246
  go_wp2_with fail
  refine (means_not a ha h1 _).mono ?_
  rintro e w1 ⟨rfl, rfl⟩
  go_wp2_with fail
  refine (means_not b hb h2 _).mono ?_
  rintro e w1 ⟨rfl, rfl⟩
  go_wp2_with fail
  go_ret
  exact ⟨rfl, rfl⟩
set_option maxHeartbeats 2000000 in
set_option maxRecDepth 100000 in
/-- Two paths of one segment each, which differ. -/
theorem clashes_not (g1 c1 g2 c2 : Nat) (a b : ByteArray) (hc1 : 1 ≤ c1) (hc2 : 1 ≤ c2) (hm1 : c1 ≤ 9223372036854775807) (hm2 : c2 ≤ 9223372036854775807) (w : World) (z1 : w.cell? ⟨g1, 0, none⟩ = some (.string a)) (z2 : w.cell? ⟨g2, 0, none⟩ = some (.string b))
    (hL : Hid (∀ w', Calls Tryz.prog 246 #[.string a, .string b] w' fun e w'' => e = .returned (.bool false) ∧ w'' = w')) :
    Calls Tryz.prog 195 #[pathV g1 c1, pathV g2 c2] w fun e w' => e = .returned (.bool false) ∧ Below w.heap.size w w' := by
  have hE : ∀ w', w'.cell? ⟨g1, 0, none⟩ = some (.string a) → w'.cell? ⟨g2, 0, none⟩ = some (.string b) → Calls Tryz.prog 245 #[pathV g1 c1, pathV g2 c2, fn0 246] w' fun e w'' => e = .returned (.bool false) ∧ w'' = w' := by
    intro w' y1 y2
    go_enter Tryz.func245, Tryz.ntmps245
    go_wp2_with fail
    go_loopw [7, 8, 9, 17] (fun _ _ _ i wr => wr = w' ∧ i = .int .i64 0) (fun _ _ _ _ _ => 0)
    case atStart => exact ⟨rfl, rfl⟩
    case round =>
      obtain ⟨rfl, rfl⟩ := hrel
      go_wp2_with fail
      refine (hL.out _).mono ?_
      rintro e w1 ⟨rfl, rfl⟩
      go_wp2_with fail
      go_ret
      exact ⟨rfl, rfl⟩
  go_enter Tryz.func195, Tryz.ntmps195
  go_wp2_with fail
  go_quiet ((go_at_call 245; exact Calls.quiet_of_same (hE _ z1 z2)))
  go_wp2_with fail
  go_ret
  exact ⟨rfl, below_drewN (Below.refl _ _) _⟩
end Go.Proofs.YthgnkhpomhcdkaaGreatDoor
/-! update: a path held against those that were read. -/
namespace Go.Proofs.YthgnkhpomhcdkaaGreatDoor
open Go Go.RowKit

abbrev clashF (g c : Nat) : Value := .func (.func 195) #[pathV g c] #[]
set_option maxHeartbeats 1000000 in
theorem against_none (a : Option Addr) (cc g c : Nat) (w : World) :
    Calls Tryz.prog 194 #[.slice a 0 cc, clashF g c] w fun e w' => e = .returned (.bool false) ∧ w' = w := by
  have hI : Calls Tryz.prog 244 #[.slice a 0 cc, clashF g c] w fun e w' => e = .returned (.int .i64 (-1)) ∧ w' = w := by
    go_enter Tryz.func244, Tryz.ntmps244
    go_wp2_with fail
    go_loopw [5, 8] (fun _ i wr => wr = w ∧ i = .int .i64 0) (fun _ _ _ => 0)
    case atStart => exact ⟨rfl, rfl⟩
    case round =>
      obtain ⟨rfl, rfl⟩ := hrel
      go_wp2_with fail
      go_ret
      exact ⟨rfl, rfl⟩
  go_enter Tryz.func194, Tryz.ntmps194
  go_wp2_with fail
  refine hI.mono ?_
  rintro e w1 ⟨rfl, rfl⟩
  go_wp2_with fail
  go_ret
  exact ⟨rfl, rfl⟩
set_option maxHeartbeats 1000000 in
theorem against_one (ga cc g1 c1 g c : Nat) (w : World) (h0 : w.cell? ⟨ga, 0, none⟩ = some (pathV g1 c1))
    (hC : Hid (Calls Tryz.prog 195 #[pathV g c, pathV g1 c1] w fun e w' => e = .returned (.bool false) ∧ Below w.heap.size w w')) :
    Calls Tryz.prog 194 #[.slice (some ⟨ga, 0, none⟩) 1 cc, clashF g c] w fun e w' => e = .returned (.bool false) ∧ Below w.heap.size w w' := by
  have hI : Calls Tryz.prog 244 #[.slice (some ⟨ga, 0, none⟩) 1 cc, clashF g c] w fun e w' => e = .returned (.int .i64 (-1)) ∧ Below w.heap.size w w' := by
    go_enter Tryz.func244, Tryz.ntmps244
    go_wp2_with fail
    go_loopw [5, 8] (fun _ i wr => (wr = w ∧ i = .int .i64 0) ∨ (Below w.heap.size w wr ∧ i = .int .i64 1)) (fun _ i _ => 1 - (intOf i).toNat)
    case atStart => exact .inl ⟨rfl, rfl⟩
    case round =>
      rcases hrel with ⟨rfl, rfl⟩ | ⟨hb, rfl⟩
      · go_wp2_with fail
        refine hC.out.mono ?_
        rintro e w1 ⟨rfl, hb⟩
        replace hb := hid_of hb
        clear hC
        go_wp2_with fail
        go_roundw
        case rel => exact .inr ⟨hb.out, by go_num⟩
        case measure => simp [intOf]
      · go_wp2_with fail
        go_ret
        exact ⟨rfl, hb⟩
  go_enter Tryz.func194, Tryz.ntmps194
  go_wp2_with fail
  refine hI.mono ?_
  rintro e w1 ⟨rfl, hb⟩
  go_wp2_with fail
  go_ret
  exact ⟨rfl, hb⟩
end Go.Proofs.YthgnkhpomhcdkaaGreatDoor
