import Derived.Test.YtloeongljbgmnaaEA
/-! epoch: atomics of roots and of numbers, the cell of the list; by nobody. -/
namespace Go.Proofs.Ytloeongljbgmnaa
open Go Go.RowKit
theorem cells4 {w : World} {g : Nat} {a b c d : Value} {t : TypeId} (h : w.heap[g]? = some (.cells #[a, b, c, d] t (0, 0))) : w.cell? ⟨g, 0, none⟩ = some a ∧ w.cell? ⟨g, 1, none⟩ = some b ∧ w.cell? ⟨g, 2, none⟩ = some c ∧ w.cell? ⟨g, 3, none⟩ = some d := ⟨cell_of h rfl, cell_of h rfl, cell_of h rfl, cell_of h rfl⟩
theorem cells5 {w : World} {g : Nat} {a b c d e : Value} {t : TypeId} (h : w.heap[g]? = some (.cells #[a, b, c, d, e] t (0, 0))) : w.cell? ⟨g, 0, none⟩ = some a ∧ w.cell? ⟨g, 1, none⟩ = some b ∧ w.cell? ⟨g, 2, none⟩ = some c ∧ w.cell? ⟨g, 3, none⟩ = some d ∧ w.cell? ⟨g, 4, none⟩ = some e := ⟨cell_of h rfl, cell_of h rfl, cell_of h rfl, cell_of h rfl, cell_of h rfl⟩
theorem cells2 {w : World} {g : Nat} {a b : Value} {t : TypeId} (h : w.heap[g]? = some (.cells #[a, b] t (0, 0))) : w.cell? ⟨g, 0, none⟩ = some a ∧ w.cell? ⟨g, 1, none⟩ = some b := ⟨cell_of h rfl, cell_of h rfl⟩
theorem there_mid2 {w : World} {g : Nat} {a b c d e : Value} {t : TypeId} (h : w.heap[g]? = some (.cells #[a, b, c, d, e] t (0, 0))) : w.there g 3 2 := by
  obtain ⟨-, -, -, c3, c4⟩ := cells5 h
  intro i hi
  have hz := fun k => warm (k := k) h
  rcases i with _ | _ | i
  · exact ⟨by rw [c3]; rfl, hz _⟩
  · exact ⟨by rw [c4]; rfl, hz _⟩
  · omega
/-- What lies in a cell, in a world that is not real. -/
def lCs (obj num : Int) (cnt : Int) (sa : Option Addr) (sn sc : Nat) : Array Value := #[.bool false, .int .i64 obj, .int .i64 num, .int .i64 cnt, .slice sa sn sc]
theorem l_i : (Try.prog.info? 49).map (·.size) = some 2 := by kernel_rfl
theorem l_one (cnt : Int) (sa : Option Addr) (sn sc : Nat) : (#[.int .i64 cnt, .slice sa sn sc] : Array Value).all (·.oneCell') = true := by simp [Value.oneCell']
set_option maxRecDepth 100000 in
set_option maxHeartbeats 1000000 in
theorem lgetdo (nb cb vb : Nat) (obj num : Int) (cnt : Int) (sa : Option Addr) (sn sc : Nat) (w : World) (hN : w.heap[nb]? = some (.cells (lCs obj num cnt sa sn sc) 97 (0, 0))) (hc : w.cell? ⟨cb, 0, none⟩ = some (.pointer (some ⟨nb, 0, none⟩))) (old : Array Value) (hold : old.size = 2) (hv : w.heap[vb]? = some (.cells old 49 (0, 0))) :
    Calls Try.prog 41 #[.pointer (some ⟨cb, 0, none⟩), .pointer (some ⟨vb, 0, none⟩)] w fun e w2 => e = .returned (.tuple #[]) ∧ w2 = w.setRow vb #[.int .i64 cnt, .slice sa sn sc] := by
  obtain ⟨-, -, -, c3, c4⟩ := cells5 hN
  clear hN
  go_enter Try.func41, Try.ntmps41
  go_wp2_with (refine wpList_store_row rfl 49 _ _ rfl vb _ rfl rfl _ _ hv l_i hold (l_one cnt sa sn sc) ?_)
  go_wp2_with fail
  exact bodyPost_end (results_none rfl _ _ _) rfl ⟨rfl, rfl⟩
set_option maxRecDepth 100000 in
set_option maxHeartbeats 2000000 in
theorem lget_any (nb : Nat) (obj num : Int) (cnt : Int) (sa : Option Addr) (sn sc : Nat) (w : World) (hN : w.heap[nb]? = some (.cells (lCs obj num cnt sa sn sc) 97 (0, 0))) :
    Calls Try.prog 24 #[.pointer (some ⟨nb, 0, none⟩), .pointer none] w fun e w' => e = .returned (.agg #[.int .i64 cnt, .slice sa sn sc]) ∧ Below w.heap.size w w' := by
  obtain ⟨W3, hW3⟩ : ∃ W3, Hid (((w.alloc (.cells #[.pointer (some ⟨nb, 0, none⟩)] 45)).alloc (.cells #[.int .i64 0, .slice none 0 0] 49)).alloc (.cells #[.int .i64 0, .slice none 0 0] 49) = W3) := ⟨_, rfl⟩
  obtain ⟨z0, z1, z2⟩ := heap_alloc3 w (.cells #[.pointer (some ⟨nb, 0, none⟩)] 45) (.cells #[.int .i64 0, .slice none 0 0] 49) (.cells #[.int .i64 0, .slice none 0 0] 49)
  have hB : Below w.heap.size w W3 := by rw [← hW3.out]; exact (((Below.refl _ w).alloc (Nat.le_refl _) _).alloc (by simp) _).alloc (by simp; omega) _
  rw [hW3.out] at z0 z1 z2
  have hN3 := (hB.block nb (Array.getElem?_eq_some_iff.1 hN).1).trans hN
  have y0 := cell_of (k := 0) z0 rfl
  have hsz : Hid (w.heap.size + 3 ≤ W3.heap.size) := by have := (Array.getElem?_eq_some_iff.1 z2).1; exact this
  have ha := hid_of (access_lg nb 8 obj num ⟨w.heap.size, 0, none⟩ ⟨w.heap.size + 2, 0, none⟩ (fun w' w2 => w2 = w'.setRow (w.heap.size + 2) #[.int .i64 cnt, .slice sa sn sc]) W3 (cell_of hN3 rfl) (cell_of hN3 rfl) (cell_of hN3 rfl)
    (fun w' hw' => lgetdo nb w.heap.size (w.heap.size + 2) obj num cnt sa sn sc w' ((hw'.block _ (Array.getElem?_eq_some_iff.1 hN3).1).trans hN3) (stay hw' y0) #[.int .i64 0, .slice none 0 0] rfl ((hw'.block _ (Array.getElem?_eq_some_iff.1 z2).1).trans z2)))
  have hmf : ∀ (fn : Fn) (first cap : Array Value) (w : World), (Instr.makeFunc fn first cap).run Try.prog w = .ok (.func fn first cap) w := fun _ _ _ _ => rfl
  replace hB := hid_of hB
  replace z1 := hid_of z1
  replace z2 := hid_of z2
  clear z0 hN hN3
  go_enter Try.func24, Try.ntmps24
  go_wp2_with (rw [hW3.out])
  refine ha.out.mono ?_
  rintro e W4 ⟨rfl, w', hw', rfl⟩
  have k2 := setRow_heap w' (w.heap.size + 2) _ #[.int .i64 cnt, .slice sa sn sc] _ _ ((hw'.block _ (Array.getElem?_eq_some_iff.1 z2.out).1).trans z2.out)
  have k1 : (w'.setRow (w.heap.size + 2) #[.int .i64 cnt, .slice sa sn sc]).heap[w.heap.size + 1]? = some (.cells #[.int .i64 0, .slice none 0 0] 49 (0, 0)) := (setRow_other _ _ _ _ (by omega)).trans ((hw'.block _ (Array.getElem?_eq_some_iff.1 z1.out).1).trans z1.out)
  have hB4 : Hid (Below w.heap.size w (w'.setRow (w.heap.size + 2) #[.int .i64 cnt, .slice sa sn sc])) := below_setRow' (hB.out.trans (hw'.mono hB.out.size)) (by omega) _
  generalize w'.setRow (w.heap.size + 2) #[.int .i64 cnt, .slice sa sn sc] = X at k1 k2 hB4
  obtain ⟨y2a, y2b⟩ := cells2 k2
  have k3 := setRow_heap X (w.heap.size + 1) _ #[.int .i64 cnt, .slice sa sn sc] _ _ k1
  have hB5 : Hid (Below w.heap.size w (X.setRow (w.heap.size + 1) #[.int .i64 cnt, .slice sa sn sc])) := below_setRow' hB4.out (by omega) _
  obtain ⟨y3a, y3b⟩ := cells2 k3
  replace k3 := hid_of k3
  clear ha hw' hW3 y0 hmf k2 hB4
  go_wp2_with (refine wpList_store_row rfl 49 _ _ rfl (w.heap.size + 1) _ rfl rfl _ _ k1 l_i rfl (l_one cnt sa sn sc) ?_)
  go_wp2_with fail
  exact bodyPost_ret (v := .agg #[.int .i64 cnt, .slice sa sn sc]) (by simp [results, Try.results24, go_sem, y3a, y3b]) rfl ⟨rfl, hB5.out⟩
set_option maxRecDepth 100000 in
set_option maxHeartbeats 1000000 in
theorem lsetdo (nb cb vb : Nat) (obj num : Int) (cnt : Int) (sa : Option Addr) (sn sc : Nat) (cnt2 : Int) (sa2 : Option Addr) (sn2 sc2 : Nat) (w : World) (hN : w.heap[nb]? = some (.cells (lCs obj num cnt sa sn sc) 97 (0, 0))) (hc : w.cell? ⟨cb, 0, none⟩ = some (.pointer (some ⟨nb, 0, none⟩))) (hv : w.heap[vb]? = some (.cells #[.int .i64 cnt2, .slice sa2 sn2 sc2] 49 (0, 0))) :
    Calls Try.prog 45 #[.pointer (some ⟨vb, 0, none⟩), .pointer (some ⟨cb, 0, none⟩)] w fun e w2 => e = .returned (.tuple #[]) ∧ w2 = w.setCells nb 3 [.int .i64 cnt2, .slice sa2 sn2 sc2] := by
  obtain ⟨y0, y1⟩ := cells2 hv
  have ht := there_mid2 hN
  clear hv
  go_enter Try.func45, Try.ntmps45
  go_wp2_with (refine wpList_store_mid rfl 49 _ _ rfl nb 3 _ rfl rfl ht l_i (l_one cnt2 sa2 sn2 sc2) ?_)
  go_wp2_with fail
  exact bodyPost_end (results_none rfl _ _ _) rfl ⟨rfl, rfl⟩
theorem l_set {w : World} {nb : Nat} {obj num : Int} {cnt : Int} {sa : Option Addr} {sn sc : Nat} {cnt2 : Int} {sa2 : Option Addr} {sn2 sc2 : Nat} (hN : w.heap[nb]? = some (.cells (lCs obj num cnt sa sn sc) 97 (0, 0))) : (w.setCells nb 3 [.int .i64 cnt2, .slice sa2 sn2 sc2]).heap[nb]? = some (.cells (lCs obj num cnt2 sa2 sn2 sc2) 97 (0, 0)) := by
  simp only [World.setCells]
  have h1 := heap_setCell_same w nb 3 _ _ (.int .i64 cnt2) hN
  have h2 := heap_setCell_same _ nb 4 _ _ (.slice sa2 sn2 sc2) h1
  exact h2
set_option maxRecDepth 100000 in
set_option maxHeartbeats 2000000 in
theorem lset_any (nb : Nat) (obj num : Int) (cnt : Int) (sa : Option Addr) (sn sc : Nat) (cnt2 : Int) (sa2 : Option Addr) (sn2 sc2 : Nat) (w : World) (hN : w.heap[nb]? = some (.cells (lCs obj num cnt sa sn sc) 97 (0, 0))) :
    Calls Try.prog 26 #[.pointer (some ⟨nb, 0, none⟩), .pointer none, .agg #[.int .i64 cnt2, .slice sa2 sn2 sc2]] w fun e w' => e = .returned (.tuple #[]) ∧ w'.heap[nb]? = some (.cells (lCs obj num cnt2 sa2 sn2 sc2) 97 (0, 0)) ∧ Fr (· = nb) w w' := by
  obtain ⟨W2, hW2⟩ : ∃ W2, Hid ((w.alloc (.cells #[.pointer (some ⟨nb, 0, none⟩)] 45)).alloc (.cells #[.int .i64 cnt2, .slice sa2 sn2 sc2] 49) = W2) := ⟨_, rfl⟩
  have z0 := heap_alloc2_old w (.cells #[.pointer (some ⟨nb, 0, none⟩)] 45) (.cells #[.int .i64 cnt2, .slice sa2 sn2 sc2] 49)
  have z1 := heap_alloc2_new w (.cells #[.pointer (some ⟨nb, 0, none⟩)] 45) (.cells #[.int .i64 cnt2, .slice sa2 sn2 sc2] 49)
  have hB : Below w.heap.size w W2 := by rw [← hW2.out]; exact ((Below.refl _ w).alloc (Nat.le_refl _) _).alloc (by simp) _
  rw [hW2.out] at z0 z1
  have hnb := (Array.getElem?_eq_some_iff.1 hN).1
  have hN2 := (hB.block nb hnb).trans hN
  have y0 := cell_of (k := 0) z0 rfl
  have ha := hid_of (access_ls nb 9 obj num ⟨w.heap.size + 1, 0, none⟩ ⟨w.heap.size, 0, none⟩ (fun w' w2 => w2 = w'.setCells nb 3 [.int .i64 cnt2, .slice sa2 sn2 sc2]) W2 (cell_of hN2 rfl) (cell_of hN2 rfl) (cell_of hN2 rfl)
    (fun w' hw' => lsetdo nb w.heap.size (w.heap.size + 1) obj num cnt sa sn sc cnt2 sa2 sn2 sc2 w' ((hw'.block _ (Array.getElem?_eq_some_iff.1 hN2).1).trans hN2) (stay hw' y0) ((hw'.block _ (Array.getElem?_eq_some_iff.1 z1).1).trans z1)))
  have hmf : ∀ (fn : Fn) (first cap : Array Value) (w : World), (Instr.makeFunc fn first cap).run Try.prog w = .ok (.func fn first cap) w := fun _ _ _ _ => rfl
  replace hB := hid_of hB
  replace hN := hid_of hN
  replace hN2 := hid_of hN2
  clear z0 z1
  go_enter Try.func26, Try.ntmps26
  go_wp2_with (rw [hW2.out])
  refine ha.out.mono ?_
  rintro e W4 ⟨rfl, w', hw', rfl⟩
  have hN4 := (hw'.block _ (Array.getElem?_eq_some_iff.1 hN2.out).1).trans hN2.out
  have hfin : Hid ((w'.setCells nb 3 [.int .i64 cnt2, .slice sa2 sn2 sc2]).heap[nb]? = some (.cells (lCs obj num cnt2 sa2 sn2 sc2) 97 (0, 0)) ∧ Fr (· = nb) w (w'.setCells nb 3 [.int .i64 cnt2, .slice sa2 sn2 sc2])) := ⟨l_set hN4, ((Fr.of_below (hB.out.trans (hw'.mono hB.out.size))).sets nb 3 _ (.inl rfl))⟩
  generalize w'.setCells nb 3 [.int .i64 cnt2, .slice sa2 sn2 sc2] = X at hfin
  clear ha hw' hW2 y0 hmf hN4
  go_wp2_with fail
  exact bodyPost_end (results_none rfl _ _ _) rfl ⟨rfl, hfin.out⟩
set_option maxRecDepth 100000 in
set_option maxHeartbeats 2000000 in
theorem lnew_any (wb : Nat) (obj num : Int) (cnt : Int) (sa : Option Addr) (sn sc : Nat) (w : World) (h : w.cell? ⟨wb, 0, none⟩ = some (.bool false)) :
    Calls Try.prog 16 #[.pointer (some ⟨wb, 0, none⟩), .int .i64 obj, .int .i64 num, .agg #[.int .i64 cnt, .slice sa sn sc]] w fun e w' => ∃ nb, e = .returned (.pointer (some ⟨nb, 0, none⟩)) ∧ w.heap.size ≤ nb ∧ w'.heap[nb]? = some (.cells (lCs obj num cnt sa sn sc) 97 (0, 0)) ∧ Below w.heap.size w w' := by
  obtain ⟨W1, hW1⟩ : ∃ W1, Hid (w.alloc (.cells #[.int .i64 cnt, .slice sa sn sc] 49) = W1) := ⟨_, rfl⟩
  have z0 := heap_alloc_new w (.cells #[.int .i64 cnt, .slice sa sn sc] 49)
  have hB : Below w.heap.size w W1 := by rw [← hW1.out]; exact (Below.refl _ w).alloc (Nat.le_refl _) _
  rw [hW1.out] at z0
  obtain ⟨y0, y1⟩ := cells2 z0
  have h1 := stay hB h
  have hp := hid_of (fun w' (hw' : Below W1.heap.size W1 w') => place_any wb obj num w' (stay hw' h1))
  have hpost : Hid (∀ X, Below W1.heap.size W1 X → ∃ nb, Ending.returned (.pointer (some ⟨X.heap.size, 0, none⟩)) = .returned (.pointer (some ⟨nb, 0, none⟩)) ∧ w.heap.size ≤ nb ∧ (X.alloc (.cells (lCs obj num cnt sa sn sc) 97)).heap[nb]? = some (.cells (lCs obj num cnt sa sn sc) 97 (0, 0)) ∧ Below w.heap.size w (X.alloc (.cells (lCs obj num cnt sa sn sc) 97))) := fun X hX => by
    have hBX := hB.trans (hX.mono hB.size)
    exact ⟨_, rfl, hBX.size, heap_alloc_new X _, hBX.alloc hBX.size _⟩
  unfold lCs at hpost ⊢
  replace hB := hid_of hB
  clear h h1 z0
  go_enter Try.func16, Try.ntmps16
  go_wp2_with (rw [hW1.out])
  go_region_held3 (fun w' => w'.cell? ⟨w.heap.size, 0, none⟩ = some (.int .i64 cnt) ∧ w'.cell? ⟨w.heap.size, 1, none⟩ = some (.slice sa sn sc)) (go_keep) (first
    | (refine (hp.out W1.drew ⟨rfl, rfl, rfl, Nat.le_refl _, fun _ _ => rfl⟩).mono ?_; rintro e Z1 ⟨rfl, hz1⟩; have t0 : Z1.cell? ⟨w.heap.size, 0, none⟩ = some (.int .i64 cnt) := stay hz1 y0; have t1 : Z1.cell? ⟨w.heap.size, 1, none⟩ = some (.slice sa sn sc) := stay hz1 y1; replace hz1 := hid_of hz1))
  go_wp2_with fail
  exact bodyPost_ret (v := .pointer (some ⟨Z1.heap.size, 0, none⟩)) (by simp [results, Try.results16, go_sem]) rfl (hpost.out Z1 ((below_drew (Below.refl _ W1)).trans hz1.out))
end Go.Proofs.Ytloeongljbgmnaa
