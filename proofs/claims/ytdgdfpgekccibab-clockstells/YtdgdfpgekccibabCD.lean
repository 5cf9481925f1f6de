import Derived.Test.YtdgdfpgekccibabCC
import Derived.ChangeKeysEq
import Derived.Laws.StructEq
import Derived.Laws.MakeOwn
/-! clocks: within, counts, thingOf, the list of kinds. -/
namespace Go.Proofs.Ytdgdfpgekccibab
open Go Go.RowKit
theorem i32_plain : Try.prog.plainKey 21 = true := by kernel_rfl
theorem i32_u : Try.prog.underlying 21 = some (.int .i32) := by kernel_rfl
theorem i32_c : Try.prog.cellsOf 21 = 1 := by kernel_rfl
theorem i32_info : ∃ i, Try.prog.info? 21 = some i := info_of_underlying i32_u
theorem eq_items (a b : Clk) (d : Nat) (w : World) : (is : List Nat) → (∀ i ∈ is, i < 16) → (Op.eqItems (d + 1) 21 1 (ck a).toArray (ck b).toArray is).run Try.prog w = .ok (is.all fun i => decide (a i = b i)) w
  | [], _ => by simp [Op.eqItems]
  | i :: is, h => by
    have hi := h i (by simp)
    have p1 := run_part_plain (P := Try.prog) w i32_plain (xs := (ck a).toArray) (off := i * 1) (v := .int .i32 (a i : Nat)) (by simpa using ck_at a hi)
    have p2 := run_part_plain (P := Try.prog) w i32_plain (xs := (ck b).toArray) (off := i * 1) (v := .int .i32 (b i : Nat)) (by simpa using ck_at b hi)
    have p3 := run_equalIn_int (P := Try.prog) w d 21 .i32 .i32 (a i : Nat) (b i : Nat) i32_u
    have ih := eq_items a b d w is (fun j hj => h j (by simp [hj]))
    simp only [Op.eqItems, Sem.run_bind, p1, p2, p3, Result.andThen_ok]
    by_cases e : a i = b i
    · simp [e, ih]
    · have e' : ((a i : Nat) : Int) ≠ ((b i : Nat) : Int) := by omega
      simp [e, e']
/-- Are two clocks the same? -/
def sameC (a b : Clk) : Bool := (List.range 16).all fun i => decide (a i = b i)
def withinC (a b : Clk) : Bool := (List.range 16).all fun i => decide (a i ≤ b i)
theorem same_join (a b : Clk) : sameC (joinC b a) b = withinC a b := by
  unfold sameC withinC joinC
  congr 1
  funext i
  rw [decide_eq_decide]
  omega
theorem clk_eq (a b : Clk) (w : World) : (binOp .eql 49 (.agg (ck a).toArray) (.agg (ck b).toArray)).run Try.prog w = .ok (.bool (sameC a b)) w := by
  obtain ⟨i, hi⟩ := i32_info
  rw [run_eql_struct, run_equalIn_array (P := Try.prog) w 9999 (ck a).toArray (ck b).toArray clk_u hi, i32_c, eq_items a b 9998 w _ (fun j hj => by simpa using hj)]
  rfl
def zeros16 : Array Value := #[.int .i32 0, .int .i32 0, .int .i32 0, .int .i32 0, .int .i32 0, .int .i32 0, .int .i32 0, .int .i32 0, .int .i32 0, .int .i32 0, .int .i32 0, .int .i32 0, .int .i32 0, .int .i32 0, .int .i32 0, .int .i32 0]
theorem heap_new' {W : World} {o : Obj} {k : Nat} (h : k = W.heap.size) : (W.alloc o).heap[k]? = some o := by subst h; exact heap_alloc_new W o
theorem ck_zero : (ck zeroC).toArray = zeros16 := by kernel_rfl
theorem Fr.setRow {S : Nat → Prop} {x w : World} (h : Fr S x w) (g : Nat) (cs : Array Value) (hp : S g ∨ x.heap.size ≤ g) : Fr S x (w.setRow g cs) :=
  ⟨h.os, h.tape, h.output, by rw [size_setRow]; exact h.size, fun k hk hs => (setRow_other w g k cs (fun e => hp.elim (fun h' => hs (by rw [e]; exact h')) (fun h' => by omega))).trans (h.block k hk hs)⟩
set_option maxHeartbeats 1000000 in
theorem within_any (a b : Clk) (w : World) :
    Calls Try.prog 21 #[.agg (ck a).toArray, .agg (ck b).toArray] w fun e w' => e = .returned (.bool (withinC a b)) ∧ Below w.heap.size w w' := by
  obtain ⟨W2, hW2⟩ : ∃ W2, Hid ((w.alloc (.cells (ck a).toArray 49)).alloc (.cells (ck b).toArray 49) = W2) := ⟨_, rfl⟩
  have h1 : W2.heap[w.heap.size + 1]? = some (.cells (ck b).toArray 49 (0, 0)) := by rw [← hW2.out]; exact heap_alloc2_new w _ _
  have h0 : W2.heap[w.heap.size]? = some (.cells (ck a).toArray 49 (0, 0)) := by rw [← hW2.out]; exact heap_alloc2_old w _ _
  have hB : Fr (fun _ => False) w W2 := by rw [← hW2.out]; exact ((Fr.refl _ w).alloc _).alloc _
  have hs : W2.heap.size = w.heap.size + 2 := by rw [← hW2.out]; simp
  have h3 : (W2.alloc (.cells zeros16 49)).heap[w.heap.size + 2]? = some (.cells zeros16 49 (0, 0)) := heap_new' hs.symm
  have o1 := all_oneCell_toArray (ck_one b)
  have s1 : zeros16.size = (ck b).toArray.size := by simp [ck_len, zeros16]
  obtain ⟨W3, hW3⟩ : ∃ W3, Hid ((W2.alloc (.cells zeros16 49)).setRow (w.heap.size + 2) (ck b).toArray = W3) := ⟨_, rfl⟩
  have hF : Fr (fun _ => False) w W3 := by rw [← hW3.out]; exact (hB.alloc _).setRow _ _ (.inr (by omega))
  have k : ∀ j, j < w.heap.size + 2 → W3.heap[j]? = W2.heap[j]? := fun j hj => by rw [← hW3.out, setRow_other _ _ _ _ (by omega)]; exact Below.heap_alloc _ _ _ (by omega)
  have g0 := (k w.heap.size (by omega)).trans h0
  have g1 := (k (w.heap.size + 1) (by omega)).trans h1
  have g2 : W3.heap[w.heap.size + 2]? = some (.cells (ck b).toArray 49 (0, 0)) := by rw [← hW3.out]; exact setRow_heap _ _ _ _ _ _ h3
  have hj := hid_of (join_any (w.heap.size + 2) 1 0 _ _ a W3 (grid_one g2) (by decide))
  rw [Nat.zero_mul] at hj
  unfold zeros16 at h3 s1 hW3
  clear k h0 g2
  go_enter Try.func21, Try.ntmps21
  go_wp2_with (first | rw [hW2.out] | rw [hW3.out] | (refine wpList_load_row rfl 49 _ rfl (w.heap.size + 1) rfl _ _ _ _ h1 clk_u rfl (by rw [clk_i]; simp [ck_len]) ?_) | (refine wpList_store_row rfl 49 _ _ rfl (w.heap.size + 2) _ rfl rfl _ _ h3 (by rw [clk_i]; simp [ck_len]) s1 o1 ?_) | (refine wpList_load_row rfl 49 _ rfl w.heap.size rfl _ _ _ _ g0 clk_u rfl (by rw [clk_i]; simp [ck_len]) ?_))
  refine hj.out.mono ?_
  rintro e W4 ⟨rfl, hG4, hF4⟩
  have r2 := hG4.range (c := 0) (by decide)
  rw [upd_same, Nat.zero_mul] at r2
  have k1 := (hF4.block (w.heap.size + 1) (Array.getElem?_eq_some_iff.1 g1).1 (by omega)).trans g1
  have hF5 := hF.next hF4 (fun i e => .inr (by omega))
  have heq := fun w => clk_eq (joinC b a) b w
  rw [same_join] at heq
  clear hj h1 h3 o1 s1 g0 g1 hG4 hF4 hF hB hW2 hW3 hs
  go_wp2_with (first | (refine wpList_load_mid rfl 49 _ rfl (w.heap.size + 2) 0 rfl (ck (joinC b a)) _ r2 clk_u rfl (by rw [clk_i, ck_len]) ?_) | (refine wpList_load_row rfl 49 _ rfl (w.heap.size + 1) rfl _ _ _ _ k1 clk_u rfl (by rw [clk_i]; simp [ck_len]) ?_))
  go_ret
  exact ⟨rfl, hF5.below (Nat.le_refl _) (fun i h => h.elim)⟩
/-- Counts in memory. -/
theorem of_agg {a b : Int} (w : World) (k : Int) : Calls Try.prog 33 #[.agg #[.int .i64 k, .int .i64 a, .int .i64 b]] w fun e w' => e = .returned (.agg #[.int .i64 a, .int .i64 b]) ∧ Below w.heap.size w w' := by
  go_enter Try.func33, Try.ntmps33
  go_wp2
  exact bodyPost_ret (v := .agg #[.int .i64 a, .int .i64 b]) (by simp [results, Try.results33, go_sem]) rfl ⟨rfl, ((Below.refl _ _).alloc (Nat.le_refl _) _).alloc (by simp) _⟩
def kindsA : Array Value := #[.nilFunc, .bool false, .bool false,
  .func (.func 35) #[] #[], .bool false, .bool false,
  .func (.func 36) #[] #[], .bool false, .bool false,
  .func (.func 37) #[] #[], .bool false, .bool false,
  .func (.func 38) #[] #[], .bool false, .bool false,
  .func (.func 39) #[] #[], .bool false, .bool false,
  .func (.func 40) #[] #[], .bool false, .bool false,
  .func (.func 41) #[] #[], .bool false, .bool false,
  .nilFunc, .bool true, .bool false,
  .nilFunc, .bool false, .bool true,
  .nilFunc, .bool false, .bool false,
  .nilFunc, .bool false, .bool false]
def kinds0 : Array Value := #[.nilFunc, .bool false, .bool false, .nilFunc, .bool false, .bool false, .nilFunc, .bool false, .bool false, .nilFunc, .bool false, .bool false, .nilFunc, .bool false, .bool false, .nilFunc, .bool false, .bool false, .nilFunc, .bool false, .bool false, .nilFunc, .bool false, .bool false, .nilFunc, .bool false, .bool false, .nilFunc, .bool false, .bool false, .nilFunc, .bool false, .bool false, .nilFunc, .bool false, .bool false]
theorem ks_u : Try.prog.underlying 65 = some (.array 12 64) := by kernel_rfl
theorem ks_i : (Try.prog.info? 65).map (·.size) = some 36 := by kernel_rfl
theorem kinds_any (w : World) : Calls Try.prog 25 #[] w fun e w' => e = .returned (.agg kindsA) ∧ Below w.heap.size w w' := by
  have h0 := heap_alloc_new w (.cells kinds0 65)
  obtain ⟨W1, hW1⟩ : ∃ W1, Hid ((w.alloc (.cells kinds0 65)).setRow w.heap.size kindsA = W1) := ⟨_, rfl⟩
  have g0 : W1.heap[w.heap.size]? = some (.cells kindsA 65 (0, 0)) := by rw [← hW1.out]; exact setRow_heap _ _ _ _ _ _ h0
  have hF : Fr (fun _ => False) w W1 := by rw [← hW1.out]; exact ((Fr.refl _ w).alloc _).setRow _ _ (.inr (Nat.le_refl _))
  have o1 : kindsA.all (·.oneCell') = true := by kernel_rfl
  have s1 : kinds0.size = kindsA.size := rfl
  have i1 : (Try.prog.info? 65).map (·.size) = some kindsA.size := ks_i
  unfold kindsA at o1 s1 i1 hW1
  unfold kinds0 at h0 s1 hW1
  go_enter Try.func25, Try.ntmps25
  go_wp2_with (first | rw [hW1.out] | (refine wpList_store_row rfl 65 _ _ rfl w.heap.size _ rfl rfl _ _ h0 i1 s1 o1 ?_))
  exact bodyPost_ret (v := .agg kindsA) (results_cell_row Try.results25 _ _ w.heap.size _ _ _ _ rfl g0 ks_u rfl ks_i) rfl ⟨rfl, hF.below (Nat.le_refl _) (fun i h => h.elim)⟩
end Go.Proofs.Ytdgdfpgekccibab
