import Derived.Test.YtloeongljbgmnaaHB
/-! heap: cells, nobody's steps. -/
namespace Go.Proofs.Ytloeongljbgmnaa
open Go Go.RowKit
theorem heap_alloc3 (w : World) (a b c : Obj) : (((w.alloc a).alloc b).alloc c).heap[w.heap.size]? = some a ∧ (((w.alloc a).alloc b).alloc c).heap[w.heap.size + 1]? = some b ∧ (((w.alloc a).alloc b).alloc c).heap[w.heap.size + 2]? = some c := by
  refine ⟨?_, ?_, ?_⟩
  · rw [heap_alloc_old _ _ (by simp; omega), heap_alloc_old _ _ (by simp)]; exact heap_alloc_new w a
  · rw [heap_alloc_old _ _ (by simp)]; exact heap_alloc2_new w a b
  · have := heap_alloc_new ((w.alloc a).alloc b) c
    simpa using this
theorem cells3 {w : World} {g : Nat} {a b c : Value} {t : TypeId} (h : w.heap[g]? = some (.cells #[a, b, c] t (0, 0))) : w.cell? ⟨g, 0, none⟩ = some a ∧ w.cell? ⟨g, 1, none⟩ = some b ∧ w.cell? ⟨g, 2, none⟩ = some c := ⟨cell_of h rfl, cell_of h rfl, cell_of h rfl⟩
theorem cells6 {w : World} {g : Nat} {a b c d e f : Value} {t : TypeId} (h : w.heap[g]? = some (.cells #[a, b, c, d, e, f] t (0, 0))) : w.cell? ⟨g, 0, none⟩ = some a ∧ w.cell? ⟨g, 1, none⟩ = some b ∧ w.cell? ⟨g, 2, none⟩ = some c ∧ w.cell? ⟨g, 3, none⟩ = some d ∧ w.cell? ⟨g, 4, none⟩ = some e ∧ w.cell? ⟨g, 5, none⟩ = some f := ⟨cell_of h rfl, cell_of h rfl, cell_of h rfl, cell_of h rfl, cell_of h rfl, cell_of h rfl⟩
theorem there_mid {w : World} {g : Nat} {a b c d e f : Value} {t : TypeId} (h : w.heap[g]? = some (.cells #[a, b, c, d, e, f] t (0, 0))) : w.there g 3 3 := by
  obtain ⟨-, -, -, c3, c4, c5⟩ := cells6 h
  intro i hi
  have hz := fun k => warm (k := k) h
  rcases i with _ | _ | _ | i
  · exact ⟨by rw [c3]; rfl, hz _⟩
  · exact ⟨by rw [c4]; rfl, hz _⟩
  · exact ⟨by rw [c5]; rfl, hz _⟩
  · omega
theorem size_setRow' (w : World) (g : Nat) (cs : Array Value) : (w.setRow g cs).heap.size = w.heap.size := by simp
theorem below_setRow' {B : Nat} {x w : World} (h : Below B x w) {g : Nat} (hg : B ≤ g) (cs : Array Value) : Below B x (w.setRow g cs) := h.trans ⟨rfl, rfl, rfl, by rw [size_setRow']; exact Nat.le_refl _, fun k hk => setRow_other w g k cs (by omega)⟩
/-- What lies in a cell, in a world that is not real. -/
def nCs (obj num : Int) (gen : Int) (live : Bool) (val : Int) : Array Value := #[.bool false, .int .i64 obj, .int .i64 num, .int .i64 gen, .bool live, .int .i64 val]
theorem n_i : (Try.prog.info? 136).map (·.size) = some 3 := by kernel_rfl
theorem n_one (gen : Int) (live : Bool) (val : Int) : (#[.int .i64 gen, .bool live, .int .i64 val] : Array Value).all (·.oneCell') = true := by simp [Value.oneCell']
set_option maxRecDepth 100000 in
set_option maxHeartbeats 1000000 in
theorem ngetdo (nb cb vb : Nat) (obj num : Int) (gen : Int) (live : Bool) (val : Int) (w : World) (hN : w.heap[nb]? = some (.cells (nCs obj num gen live val) 219 (0, 0))) (hc : w.cell? ⟨cb, 0, none⟩ = some (.pointer (some ⟨nb, 0, none⟩))) (old : Array Value) (hold : old.size = 3) (hv : w.heap[vb]? = some (.cells old 136 (0, 0))) :
    Calls Try.prog 114 #[.pointer (some ⟨cb, 0, none⟩), .pointer (some ⟨vb, 0, none⟩)] w fun e w2 => e = .returned (.tuple #[]) ∧ w2 = w.setRow vb #[.int .i64 gen, .bool live, .int .i64 val] := by
  obtain ⟨-, -, -, c3, c4, c5⟩ := cells6 hN
  clear hN
  go_enter Try.func114, Try.ntmps114
  go_wp2_with (refine wpList_store_row rfl 136 _ _ rfl vb _ rfl rfl _ _ hv n_i hold (n_one gen live val) ?_)
  go_wp2_with fail
  exact bodyPost_end (results_none rfl _ _ _) rfl ⟨rfl, rfl⟩
set_option maxRecDepth 100000 in
set_option maxHeartbeats 2000000 in
theorem nget_any (nb : Nat) (obj num : Int) (gen : Int) (live : Bool) (val : Int) (w : World) (hN : w.heap[nb]? = some (.cells (nCs obj num gen live val) 219 (0, 0))) :
    Calls Try.prog 112 #[.pointer (some ⟨nb, 0, none⟩), .pointer none] w fun e w' => e = .returned (.agg #[.int .i64 gen, .bool live, .int .i64 val]) ∧ Below w.heap.size w w' := by
  obtain ⟨W3, hW3⟩ : ∃ W3, Hid (((w.alloc (.cells #[.pointer (some ⟨nb, 0, none⟩)] 209)).alloc (.cells #[.int .i64 0, .bool false, .int .i64 0] 136)).alloc (.cells #[.int .i64 0, .bool false, .int .i64 0] 136) = W3) := ⟨_, rfl⟩
  obtain ⟨z0, z1, z2⟩ := heap_alloc3 w (.cells #[.pointer (some ⟨nb, 0, none⟩)] 209) (.cells #[.int .i64 0, .bool false, .int .i64 0] 136) (.cells #[.int .i64 0, .bool false, .int .i64 0] 136)
  have hB : Below w.heap.size w W3 := by rw [← hW3.out]; exact (((Below.refl _ w).alloc (Nat.le_refl _) _).alloc (by simp) _).alloc (by simp; omega) _
  rw [hW3.out] at z0 z1 z2
  have hN3 := (hB.block nb (Array.getElem?_eq_some_iff.1 hN).1).trans hN
  have y0 := cell_of (k := 0) z0 rfl
  have hsz : Hid (w.heap.size + 3 ≤ W3.heap.size) := by have := (Array.getElem?_eq_some_iff.1 z2).1; exact this
  have ha := hid_of (access_ng nb 8 obj num ⟨w.heap.size, 0, none⟩ ⟨w.heap.size + 2, 0, none⟩ (fun w' w2 => w2 = w'.setRow (w.heap.size + 2) #[.int .i64 gen, .bool live, .int .i64 val]) W3 (cell_of hN3 rfl) (cell_of hN3 rfl) (cell_of hN3 rfl)
    (fun w' hw' => ngetdo nb w.heap.size (w.heap.size + 2) obj num gen live val w' ((hw'.block _ (Array.getElem?_eq_some_iff.1 hN3).1).trans hN3) (stay hw' y0) #[.int .i64 0, .bool false, .int .i64 0] rfl ((hw'.block _ (Array.getElem?_eq_some_iff.1 z2).1).trans z2)))
  have hmf : ∀ (fn : Fn) (first cap : Array Value) (w : World), (Instr.makeFunc fn first cap).run Try.prog w = .ok (.func fn first cap) w := fun _ _ _ _ => rfl
  replace hB := hid_of hB
  replace z1 := hid_of z1
  replace z2 := hid_of z2
  clear z0 hN hN3
  go_enter Try.func112, Try.ntmps112
  go_wp2_with (rw [hW3.out])
  refine ha.out.mono ?_
  rintro e W4 ⟨rfl, w', hw', rfl⟩
  have k2 := setRow_heap w' (w.heap.size + 2) _ #[.int .i64 gen, .bool live, .int .i64 val] _ _ ((hw'.block _ (Array.getElem?_eq_some_iff.1 z2.out).1).trans z2.out)
  have k1 : (w'.setRow (w.heap.size + 2) #[.int .i64 gen, .bool live, .int .i64 val]).heap[w.heap.size + 1]? = some (.cells #[.int .i64 0, .bool false, .int .i64 0] 136 (0, 0)) := (setRow_other _ _ _ _ (by omega)).trans ((hw'.block _ (Array.getElem?_eq_some_iff.1 z1.out).1).trans z1.out)
  have hB4 : Hid (Below w.heap.size w (w'.setRow (w.heap.size + 2) #[.int .i64 gen, .bool live, .int .i64 val])) := below_setRow' (hB.out.trans (hw'.mono hB.out.size)) (by omega) _
  generalize w'.setRow (w.heap.size + 2) #[.int .i64 gen, .bool live, .int .i64 val] = X at k1 k2 hB4
  obtain ⟨y2a, y2b, y2c⟩ := cells3 k2
  have k3 := setRow_heap X (w.heap.size + 1) _ #[.int .i64 gen, .bool live, .int .i64 val] _ _ k1
  have hB5 : Hid (Below w.heap.size w (X.setRow (w.heap.size + 1) #[.int .i64 gen, .bool live, .int .i64 val])) := below_setRow' hB4.out (by omega) _
  obtain ⟨y3a, y3b, y3c⟩ := cells3 k3
  replace k3 := hid_of k3
  clear ha hw' hW3 y0 hmf k2 hB4
  go_wp2_with (refine wpList_store_row rfl 136 _ _ rfl (w.heap.size + 1) _ rfl rfl _ _ k1 n_i rfl (n_one gen live val) ?_)
  go_wp2_with fail
  exact bodyPost_ret (v := .agg #[.int .i64 gen, .bool live, .int .i64 val]) (by simp [results, Try.results112, go_sem, y3a, y3b, y3c]) rfl ⟨rfl, hB5.out⟩
set_option maxRecDepth 100000 in
set_option maxHeartbeats 1000000 in
theorem nsetdo (nb cb vb : Nat) (obj num : Int) (gen : Int) (live : Bool) (val : Int) (gen2 : Int) (live2 : Bool) (val2 : Int) (w : World) (hN : w.heap[nb]? = some (.cells (nCs obj num gen live val) 219 (0, 0))) (hc : w.cell? ⟨cb, 0, none⟩ = some (.pointer (some ⟨nb, 0, none⟩))) (hv : w.heap[vb]? = some (.cells #[.int .i64 gen2, .bool live2, .int .i64 val2] 136 (0, 0))) :
    Calls Try.prog 115 #[.pointer (some ⟨vb, 0, none⟩), .pointer (some ⟨cb, 0, none⟩)] w fun e w2 => e = .returned (.tuple #[]) ∧ w2 = w.setCells nb 3 [.int .i64 gen2, .bool live2, .int .i64 val2] := by
  obtain ⟨y0, y1, y2⟩ := cells3 hv
  have ht := there_mid hN
  clear hv
  go_enter Try.func115, Try.ntmps115
  go_wp2_with (refine wpList_store_mid rfl 136 _ _ rfl nb 3 _ rfl rfl ht n_i (n_one gen2 live2 val2) ?_)
  go_wp2_with fail
  exact bodyPost_end (results_none rfl _ _ _) rfl ⟨rfl, rfl⟩
theorem n_set {w : World} {nb : Nat} {obj num : Int} {gen : Int} {live : Bool} {val : Int} {gen2 : Int} {live2 : Bool} {val2 : Int} (hN : w.heap[nb]? = some (.cells (nCs obj num gen live val) 219 (0, 0))) : (w.setCells nb 3 [.int .i64 gen2, .bool live2, .int .i64 val2]).heap[nb]? = some (.cells (nCs obj num gen2 live2 val2) 219 (0, 0)) := by
  simp only [World.setCells]
  have h1 := heap_setCell_same w nb 3 _ _ (.int .i64 gen2) hN
  have h2 := heap_setCell_same _ nb 4 _ _ (.bool live2) h1
  have h3 := heap_setCell_same _ nb 5 _ _ (.int .i64 val2) h2
  exact h3
set_option maxRecDepth 100000 in
set_option maxHeartbeats 2000000 in
theorem nset_any (nb : Nat) (obj num : Int) (gen : Int) (live : Bool) (val : Int) (gen2 : Int) (live2 : Bool) (val2 : Int) (w : World) (hN : w.heap[nb]? = some (.cells (nCs obj num gen live val) 219 (0, 0))) :
    Calls Try.prog 113 #[.pointer (some ⟨nb, 0, none⟩), .pointer none, .agg #[.int .i64 gen2, .bool live2, .int .i64 val2]] w fun e w' => e = .returned (.tuple #[]) ∧ w'.heap[nb]? = some (.cells (nCs obj num gen2 live2 val2) 219 (0, 0)) ∧ Fr (· = nb) w w' := by
  obtain ⟨W2, hW2⟩ : ∃ W2, Hid ((w.alloc (.cells #[.pointer (some ⟨nb, 0, none⟩)] 209)).alloc (.cells #[.int .i64 gen2, .bool live2, .int .i64 val2] 136) = W2) := ⟨_, rfl⟩
  have z0 := heap_alloc2_old w (.cells #[.pointer (some ⟨nb, 0, none⟩)] 209) (.cells #[.int .i64 gen2, .bool live2, .int .i64 val2] 136)
  have z1 := heap_alloc2_new w (.cells #[.pointer (some ⟨nb, 0, none⟩)] 209) (.cells #[.int .i64 gen2, .bool live2, .int .i64 val2] 136)
  have hB : Below w.heap.size w W2 := by rw [← hW2.out]; exact ((Below.refl _ w).alloc (Nat.le_refl _) _).alloc (by simp) _
  rw [hW2.out] at z0 z1
  have hnb := (Array.getElem?_eq_some_iff.1 hN).1
  have hN2 := (hB.block nb hnb).trans hN
  have y0 := cell_of (k := 0) z0 rfl
  have ha := hid_of (access_ns nb 9 obj num ⟨w.heap.size + 1, 0, none⟩ ⟨w.heap.size, 0, none⟩ (fun w' w2 => w2 = w'.setCells nb 3 [.int .i64 gen2, .bool live2, .int .i64 val2]) W2 (cell_of hN2 rfl) (cell_of hN2 rfl) (cell_of hN2 rfl)
    (fun w' hw' => nsetdo nb w.heap.size (w.heap.size + 1) obj num gen live val gen2 live2 val2 w' ((hw'.block _ (Array.getElem?_eq_some_iff.1 hN2).1).trans hN2) (stay hw' y0) ((hw'.block _ (Array.getElem?_eq_some_iff.1 z1).1).trans z1)))
  have hmf : ∀ (fn : Fn) (first cap : Array Value) (w : World), (Instr.makeFunc fn first cap).run Try.prog w = .ok (.func fn first cap) w := fun _ _ _ _ => rfl
  replace hB := hid_of hB
  replace hN := hid_of hN
  replace hN2 := hid_of hN2
  clear z0 z1
  go_enter Try.func113, Try.ntmps113
  go_wp2_with (rw [hW2.out])
  refine ha.out.mono ?_
  rintro e W4 ⟨rfl, w', hw', rfl⟩
  have hN4 := (hw'.block _ (Array.getElem?_eq_some_iff.1 hN2.out).1).trans hN2.out
  have hfin : Hid ((w'.setCells nb 3 [.int .i64 gen2, .bool live2, .int .i64 val2]).heap[nb]? = some (.cells (nCs obj num gen2 live2 val2) 219 (0, 0)) ∧ Fr (· = nb) w (w'.setCells nb 3 [.int .i64 gen2, .bool live2, .int .i64 val2])) := ⟨n_set hN4, ((Fr.of_below (hB.out.trans (hw'.mono hB.out.size))).sets nb 3 _ (.inl rfl))⟩
  generalize w'.setCells nb 3 [.int .i64 gen2, .bool live2, .int .i64 val2] = X at hfin
  clear ha hw' hW2 y0 hmf hN4
  go_wp2_with fail
  exact bodyPost_end (results_none rfl _ _ _) rfl ⟨rfl, hfin.out⟩
set_option maxRecDepth 100000 in
set_option maxHeartbeats 2000000 in
theorem nnew_any (wb : Nat) (obj num : Int) (gen : Int) (live : Bool) (val : Int) (w : World) (h : w.cell? ⟨wb, 0, none⟩ = some (.bool false)) :
    Calls Try.prog 84 #[.pointer (some ⟨wb, 0, none⟩), .int .i64 obj, .int .i64 num, .agg #[.int .i64 gen, .bool live, .int .i64 val]] w fun e w' => ∃ nb, e = .returned (.pointer (some ⟨nb, 0, none⟩)) ∧ w.heap.size ≤ nb ∧ w'.heap[nb]? = some (.cells (nCs obj num gen live val) 219 (0, 0)) ∧ Below w.heap.size w w' := by
  obtain ⟨W1, hW1⟩ : ∃ W1, Hid (w.alloc (.cells #[.int .i64 gen, .bool live, .int .i64 val] 136) = W1) := ⟨_, rfl⟩
  have z0 := heap_alloc_new w (.cells #[.int .i64 gen, .bool live, .int .i64 val] 136)
  have hB : Below w.heap.size w W1 := by rw [← hW1.out]; exact (Below.refl _ w).alloc (Nat.le_refl _) _
  rw [hW1.out] at z0
  obtain ⟨y0, y1, y2⟩ := cells3 z0
  have h1 := stay hB h
  have hp := hid_of (fun w' (hw' : Below W1.heap.size W1 w') => place_any wb obj num w' (stay hw' h1))
  have hpost : Hid (∀ X, Below W1.heap.size W1 X → ∃ nb, Ending.returned (.pointer (some ⟨X.heap.size, 0, none⟩)) = .returned (.pointer (some ⟨nb, 0, none⟩)) ∧ w.heap.size ≤ nb ∧ (X.alloc (.cells (nCs obj num gen live val) 219)).heap[nb]? = some (.cells (nCs obj num gen live val) 219 (0, 0)) ∧ Below w.heap.size w (X.alloc (.cells (nCs obj num gen live val) 219))) := fun X hX => by
    have hBX := hB.trans (hX.mono hB.size)
    exact ⟨_, rfl, hBX.size, heap_alloc_new X _, hBX.alloc hBX.size _⟩
  unfold nCs at hpost ⊢
  replace hB := hid_of hB
  clear h h1 z0
  go_enter Try.func84, Try.ntmps84
  go_wp2_with (rw [hW1.out])
  go_region_held3 (fun w' => w'.cell? ⟨w.heap.size, 0, none⟩ = some (.int .i64 gen) ∧ w'.cell? ⟨w.heap.size, 1, none⟩ = some (.bool live) ∧ w'.cell? ⟨w.heap.size, 2, none⟩ = some (.int .i64 val)) (go_keep) (first
    | (refine (hp.out W1.drew ⟨rfl, rfl, rfl, Nat.le_refl _, fun _ _ => rfl⟩).mono ?_; rintro e Z1 ⟨rfl, hz1⟩; have t0 : Z1.cell? ⟨w.heap.size, 0, none⟩ = some (.int .i64 gen) := stay hz1 y0; have t1 : Z1.cell? ⟨w.heap.size, 1, none⟩ = some (.bool live) := stay hz1 y1; have t2 : Z1.cell? ⟨w.heap.size, 2, none⟩ = some (.int .i64 val) := stay hz1 y2; replace hz1 := hid_of hz1))
  go_wp2_with fail
  exact bodyPost_ret (v := .pointer (some ⟨Z1.heap.size, 0, none⟩)) (by simp [results, Try.results84, go_sem]) rfl (hpost.out Z1 ((below_drew (Below.refl _ W1)).trans hz1.out))
/-- What lies in a cell, in a world that is not real. -/
def pCs (obj num : Int) (cnt : Int) (sa : Option Addr) (sn sc : Nat) (rest : Option Addr) : Array Value := #[.bool false, .int .i64 obj, .int .i64 num, .int .i64 cnt, .slice sa sn sc, .pointer rest]
theorem p_i : (Try.prog.info? 162).map (·.size) = some 3 := by kernel_rfl
theorem p_one (cnt : Int) (sa : Option Addr) (sn sc : Nat) (rest : Option Addr) : (#[.int .i64 cnt, .slice sa sn sc, .pointer rest] : Array Value).all (·.oneCell') = true := by simp [Value.oneCell']
set_option maxRecDepth 100000 in
set_option maxHeartbeats 1000000 in
theorem pgetdo (nb cb vb : Nat) (obj num : Int) (cnt : Int) (sa : Option Addr) (sn sc : Nat) (rest : Option Addr) (w : World) (hN : w.heap[nb]? = some (.cells (pCs obj num cnt sa sn sc rest) 177 (0, 0))) (hc : w.cell? ⟨cb, 0, none⟩ = some (.pointer (some ⟨nb, 0, none⟩))) (old : Array Value) (hold : old.size = 3) (hv : w.heap[vb]? = some (.cells old 162 (0, 0))) :
    Calls Try.prog 79 #[.pointer (some ⟨cb, 0, none⟩), .pointer (some ⟨vb, 0, none⟩)] w fun e w2 => e = .returned (.tuple #[]) ∧ w2 = w.setRow vb #[.int .i64 cnt, .slice sa sn sc, .pointer rest] := by
  obtain ⟨-, -, -, c3, c4, c5⟩ := cells6 hN
  clear hN
  go_enter Try.func79, Try.ntmps79
  go_wp2_with (refine wpList_store_row rfl 162 _ _ rfl vb _ rfl rfl _ _ hv p_i hold (p_one cnt sa sn sc rest) ?_)
  go_wp2_with fail
  exact bodyPost_end (results_none rfl _ _ _) rfl ⟨rfl, rfl⟩
set_option maxRecDepth 100000 in
set_option maxHeartbeats 2000000 in
theorem pget_any (nb : Nat) (obj num : Int) (cnt : Int) (sa : Option Addr) (sn sc : Nat) (rest : Option Addr) (w : World) (hN : w.heap[nb]? = some (.cells (pCs obj num cnt sa sn sc rest) 177 (0, 0))) :
    Calls Try.prog 64 #[.pointer (some ⟨nb, 0, none⟩), .pointer none] w fun e w' => e = .returned (.agg #[.int .i64 cnt, .slice sa sn sc, .pointer rest]) ∧ Below w.heap.size w w' := by
  obtain ⟨W3, hW3⟩ : ∃ W3, Hid (((w.alloc (.cells #[.pointer (some ⟨nb, 0, none⟩)] 152)).alloc (.cells #[.int .i64 0, .slice none 0 0, .pointer none] 162)).alloc (.cells #[.int .i64 0, .slice none 0 0, .pointer none] 162) = W3) := ⟨_, rfl⟩
  obtain ⟨z0, z1, z2⟩ := heap_alloc3 w (.cells #[.pointer (some ⟨nb, 0, none⟩)] 152) (.cells #[.int .i64 0, .slice none 0 0, .pointer none] 162) (.cells #[.int .i64 0, .slice none 0 0, .pointer none] 162)
  have hB : Below w.heap.size w W3 := by rw [← hW3.out]; exact (((Below.refl _ w).alloc (Nat.le_refl _) _).alloc (by simp) _).alloc (by simp; omega) _
  rw [hW3.out] at z0 z1 z2
  have hN3 := (hB.block nb (Array.getElem?_eq_some_iff.1 hN).1).trans hN
  have y0 := cell_of (k := 0) z0 rfl
  have hsz : Hid (w.heap.size + 3 ≤ W3.heap.size) := by have := (Array.getElem?_eq_some_iff.1 z2).1; exact this
  have ha := hid_of (access_pg nb 8 obj num ⟨w.heap.size, 0, none⟩ ⟨w.heap.size + 2, 0, none⟩ (fun w' w2 => w2 = w'.setRow (w.heap.size + 2) #[.int .i64 cnt, .slice sa sn sc, .pointer rest]) W3 (cell_of hN3 rfl) (cell_of hN3 rfl) (cell_of hN3 rfl)
    (fun w' hw' => pgetdo nb w.heap.size (w.heap.size + 2) obj num cnt sa sn sc rest w' ((hw'.block _ (Array.getElem?_eq_some_iff.1 hN3).1).trans hN3) (stay hw' y0) #[.int .i64 0, .slice none 0 0, .pointer none] rfl ((hw'.block _ (Array.getElem?_eq_some_iff.1 z2).1).trans z2)))
  have hmf : ∀ (fn : Fn) (first cap : Array Value) (w : World), (Instr.makeFunc fn first cap).run Try.prog w = .ok (.func fn first cap) w := fun _ _ _ _ => rfl
  replace hB := hid_of hB
  replace z1 := hid_of z1
  replace z2 := hid_of z2
  clear z0 hN hN3
  go_enter Try.func64, Try.ntmps64
  go_wp2_with (rw [hW3.out])
  refine ha.out.mono ?_
  rintro e W4 ⟨rfl, w', hw', rfl⟩
  have k2 := setRow_heap w' (w.heap.size + 2) _ #[.int .i64 cnt, .slice sa sn sc, .pointer rest] _ _ ((hw'.block _ (Array.getElem?_eq_some_iff.1 z2.out).1).trans z2.out)
  have k1 : (w'.setRow (w.heap.size + 2) #[.int .i64 cnt, .slice sa sn sc, .pointer rest]).heap[w.heap.size + 1]? = some (.cells #[.int .i64 0, .slice none 0 0, .pointer none] 162 (0, 0)) := (setRow_other _ _ _ _ (by omega)).trans ((hw'.block _ (Array.getElem?_eq_some_iff.1 z1.out).1).trans z1.out)
  have hB4 : Hid (Below w.heap.size w (w'.setRow (w.heap.size + 2) #[.int .i64 cnt, .slice sa sn sc, .pointer rest])) := below_setRow' (hB.out.trans (hw'.mono hB.out.size)) (by omega) _
  generalize w'.setRow (w.heap.size + 2) #[.int .i64 cnt, .slice sa sn sc, .pointer rest] = X at k1 k2 hB4
  obtain ⟨y2a, y2b, y2c⟩ := cells3 k2
  have k3 := setRow_heap X (w.heap.size + 1) _ #[.int .i64 cnt, .slice sa sn sc, .pointer rest] _ _ k1
  have hB5 : Hid (Below w.heap.size w (X.setRow (w.heap.size + 1) #[.int .i64 cnt, .slice sa sn sc, .pointer rest])) := below_setRow' hB4.out (by omega) _
  obtain ⟨y3a, y3b, y3c⟩ := cells3 k3
  replace k3 := hid_of k3
  clear ha hw' hW3 y0 hmf k2 hB4
  go_wp2_with (refine wpList_store_row rfl 162 _ _ rfl (w.heap.size + 1) _ rfl rfl _ _ k1 p_i rfl (p_one cnt sa sn sc rest) ?_)
  go_wp2_with fail
  exact bodyPost_ret (v := .agg #[.int .i64 cnt, .slice sa sn sc, .pointer rest]) (by simp [results, Try.results64, go_sem, y3a, y3b, y3c]) rfl ⟨rfl, hB5.out⟩
set_option maxRecDepth 100000 in
set_option maxHeartbeats 1000000 in
theorem psetdo (nb cb vb : Nat) (obj num : Int) (cnt : Int) (sa : Option Addr) (sn sc : Nat) (rest : Option Addr) (cnt2 : Int) (sa2 : Option Addr) (sn2 sc2 : Nat) (rest2 : Option Addr) (w : World) (hN : w.heap[nb]? = some (.cells (pCs obj num cnt sa sn sc rest) 177 (0, 0))) (hc : w.cell? ⟨cb, 0, none⟩ = some (.pointer (some ⟨nb, 0, none⟩))) (hv : w.heap[vb]? = some (.cells #[.int .i64 cnt2, .slice sa2 sn2 sc2, .pointer rest2] 162 (0, 0))) :
    Calls Try.prog 78 #[.pointer (some ⟨vb, 0, none⟩), .pointer (some ⟨cb, 0, none⟩)] w fun e w2 => e = .returned (.tuple #[]) ∧ w2 = w.setCells nb 3 [.int .i64 cnt2, .slice sa2 sn2 sc2, .pointer rest2] := by
  obtain ⟨y0, y1, y2⟩ := cells3 hv
  have ht := there_mid hN
  clear hv
  go_enter Try.func78, Try.ntmps78
  go_wp2_with (refine wpList_store_mid rfl 162 _ _ rfl nb 3 _ rfl rfl ht p_i (p_one cnt2 sa2 sn2 sc2 rest2) ?_)
  go_wp2_with fail
  exact bodyPost_end (results_none rfl _ _ _) rfl ⟨rfl, rfl⟩
theorem p_set {w : World} {nb : Nat} {obj num : Int} {cnt : Int} {sa : Option Addr} {sn sc : Nat} {rest : Option Addr} {cnt2 : Int} {sa2 : Option Addr} {sn2 sc2 : Nat} {rest2 : Option Addr} (hN : w.heap[nb]? = some (.cells (pCs obj num cnt sa sn sc rest) 177 (0, 0))) : (w.setCells nb 3 [.int .i64 cnt2, .slice sa2 sn2 sc2, .pointer rest2]).heap[nb]? = some (.cells (pCs obj num cnt2 sa2 sn2 sc2 rest2) 177 (0, 0)) := by
  simp only [World.setCells]
  have h1 := heap_setCell_same w nb 3 _ _ (.int .i64 cnt2) hN
  have h2 := heap_setCell_same _ nb 4 _ _ (.slice sa2 sn2 sc2) h1
  have h3 := heap_setCell_same _ nb 5 _ _ (.pointer rest2) h2
  exact h3
set_option maxRecDepth 100000 in
set_option maxHeartbeats 2000000 in
theorem pset_any (nb : Nat) (obj num : Int) (cnt : Int) (sa : Option Addr) (sn sc : Nat) (rest : Option Addr) (cnt2 : Int) (sa2 : Option Addr) (sn2 sc2 : Nat) (rest2 : Option Addr) (w : World) (hN : w.heap[nb]? = some (.cells (pCs obj num cnt sa sn sc rest) 177 (0, 0))) :
    Calls Try.prog 63 #[.pointer (some ⟨nb, 0, none⟩), .pointer none, .agg #[.int .i64 cnt2, .slice sa2 sn2 sc2, .pointer rest2]] w fun e w' => e = .returned (.tuple #[]) ∧ w'.heap[nb]? = some (.cells (pCs obj num cnt2 sa2 sn2 sc2 rest2) 177 (0, 0)) ∧ Fr (· = nb) w w' := by
  obtain ⟨W2, hW2⟩ : ∃ W2, Hid ((w.alloc (.cells #[.pointer (some ⟨nb, 0, none⟩)] 152)).alloc (.cells #[.int .i64 cnt2, .slice sa2 sn2 sc2, .pointer rest2] 162) = W2) := ⟨_, rfl⟩
  have z0 := heap_alloc2_old w (.cells #[.pointer (some ⟨nb, 0, none⟩)] 152) (.cells #[.int .i64 cnt2, .slice sa2 sn2 sc2, .pointer rest2] 162)
  have z1 := heap_alloc2_new w (.cells #[.pointer (some ⟨nb, 0, none⟩)] 152) (.cells #[.int .i64 cnt2, .slice sa2 sn2 sc2, .pointer rest2] 162)
  have hB : Below w.heap.size w W2 := by rw [← hW2.out]; exact ((Below.refl _ w).alloc (Nat.le_refl _) _).alloc (by simp) _
  rw [hW2.out] at z0 z1
  have hnb := (Array.getElem?_eq_some_iff.1 hN).1
  have hN2 := (hB.block nb hnb).trans hN
  have y0 := cell_of (k := 0) z0 rfl
  have ha := hid_of (access_ps nb 9 obj num ⟨w.heap.size + 1, 0, none⟩ ⟨w.heap.size, 0, none⟩ (fun w' w2 => w2 = w'.setCells nb 3 [.int .i64 cnt2, .slice sa2 sn2 sc2, .pointer rest2]) W2 (cell_of hN2 rfl) (cell_of hN2 rfl) (cell_of hN2 rfl)
    (fun w' hw' => psetdo nb w.heap.size (w.heap.size + 1) obj num cnt sa sn sc rest cnt2 sa2 sn2 sc2 rest2 w' ((hw'.block _ (Array.getElem?_eq_some_iff.1 hN2).1).trans hN2) (stay hw' y0) ((hw'.block _ (Array.getElem?_eq_some_iff.1 z1).1).trans z1)))
  have hmf : ∀ (fn : Fn) (first cap : Array Value) (w : World), (Instr.makeFunc fn first cap).run Try.prog w = .ok (.func fn first cap) w := fun _ _ _ _ => rfl
  replace hB := hid_of hB
  replace hN := hid_of hN
  replace hN2 := hid_of hN2
  clear z0 z1
  go_enter Try.func63, Try.ntmps63
  go_wp2_with (rw [hW2.out])
  refine ha.out.mono ?_
  rintro e W4 ⟨rfl, w', hw', rfl⟩
  have hN4 := (hw'.block _ (Array.getElem?_eq_some_iff.1 hN2.out).1).trans hN2.out
  have hfin : Hid ((w'.setCells nb 3 [.int .i64 cnt2, .slice sa2 sn2 sc2, .pointer rest2]).heap[nb]? = some (.cells (pCs obj num cnt2 sa2 sn2 sc2 rest2) 177 (0, 0)) ∧ Fr (· = nb) w (w'.setCells nb 3 [.int .i64 cnt2, .slice sa2 sn2 sc2, .pointer rest2])) := ⟨p_set hN4, ((Fr.of_below (hB.out.trans (hw'.mono hB.out.size))).sets nb 3 _ (.inl rfl))⟩
  generalize w'.setCells nb 3 [.int .i64 cnt2, .slice sa2 sn2 sc2, .pointer rest2] = X at hfin
  clear ha hw' hW2 y0 hmf hN4
  go_wp2_with fail
  exact bodyPost_end (results_none rfl _ _ _) rfl ⟨rfl, hfin.out⟩
set_option maxRecDepth 100000 in
set_option maxHeartbeats 2000000 in
theorem pnew_any (wb : Nat) (obj num : Int) (cnt : Int) (sa : Option Addr) (sn sc : Nat) (rest : Option Addr) (w : World) (h : w.cell? ⟨wb, 0, none⟩ = some (.bool false)) :
    Calls Try.prog 68 #[.pointer (some ⟨wb, 0, none⟩), .int .i64 obj, .int .i64 num, .agg #[.int .i64 cnt, .slice sa sn sc, .pointer rest]] w fun e w' => ∃ nb, e = .returned (.pointer (some ⟨nb, 0, none⟩)) ∧ w.heap.size ≤ nb ∧ w'.heap[nb]? = some (.cells (pCs obj num cnt sa sn sc rest) 177 (0, 0)) ∧ Below w.heap.size w w' := by
  obtain ⟨W1, hW1⟩ : ∃ W1, Hid (w.alloc (.cells #[.int .i64 cnt, .slice sa sn sc, .pointer rest] 162) = W1) := ⟨_, rfl⟩
  have z0 := heap_alloc_new w (.cells #[.int .i64 cnt, .slice sa sn sc, .pointer rest] 162)
  have hB : Below w.heap.size w W1 := by rw [← hW1.out]; exact (Below.refl _ w).alloc (Nat.le_refl _) _
  rw [hW1.out] at z0
  obtain ⟨y0, y1, y2⟩ := cells3 z0
  have h1 := stay hB h
  have hp := hid_of (fun w' (hw' : Below W1.heap.size W1 w') => place_any wb obj num w' (stay hw' h1))
  have hpost : Hid (∀ X, Below W1.heap.size W1 X → ∃ nb, Ending.returned (.pointer (some ⟨X.heap.size, 0, none⟩)) = .returned (.pointer (some ⟨nb, 0, none⟩)) ∧ w.heap.size ≤ nb ∧ (X.alloc (.cells (pCs obj num cnt sa sn sc rest) 177)).heap[nb]? = some (.cells (pCs obj num cnt sa sn sc rest) 177 (0, 0)) ∧ Below w.heap.size w (X.alloc (.cells (pCs obj num cnt sa sn sc rest) 177))) := fun X hX => by
    have hBX := hB.trans (hX.mono hB.size)
    exact ⟨_, rfl, hBX.size, heap_alloc_new X _, hBX.alloc hBX.size _⟩
  unfold pCs at hpost ⊢
  replace hB := hid_of hB
  clear h h1 z0
  go_enter Try.func68, Try.ntmps68
  go_wp2_with (rw [hW1.out])
  go_region_held3 (fun w' => w'.cell? ⟨w.heap.size, 0, none⟩ = some (.int .i64 cnt) ∧ w'.cell? ⟨w.heap.size, 1, none⟩ = some (.slice sa sn sc) ∧ w'.cell? ⟨w.heap.size, 2, none⟩ = some (.pointer rest)) (go_keep) (first
    | (refine (hp.out W1.drew ⟨rfl, rfl, rfl, Nat.le_refl _, fun _ _ => rfl⟩).mono ?_; rintro e Z1 ⟨rfl, hz1⟩; have t0 : Z1.cell? ⟨w.heap.size, 0, none⟩ = some (.int .i64 cnt) := stay hz1 y0; have t1 : Z1.cell? ⟨w.heap.size, 1, none⟩ = some (.slice sa sn sc) := stay hz1 y1; have t2 : Z1.cell? ⟨w.heap.size, 2, none⟩ = some (.pointer rest) := stay hz1 y2; replace hz1 := hid_of hz1))
  go_wp2_with fail
  exact bodyPost_ret (v := .pointer (some ⟨Z1.heap.size, 0, none⟩)) (by simp [results, Try.results68, go_sem]) rfl (hpost.out Z1 ((below_drew (Below.refl _ W1)).trans hz1.out))
end Go.Proofs.Ytloeongljbgmnaa
