import Derived.Test.YtdgdfpgekccibabCA
/-! clocks: join. -/
namespace Go.Proofs.Ytdgdfpgekccibab
open Go Go.RowKit
theorem clk_u : Try.prog.underlying 49 = some (.array 16 21) := by kernel_rfl
theorem clk_i : (Try.prog.info? 49).map (·.size) = some 16 := by kernel_rfl
theorem cix0 (g : Clk) (w : World) : (Instr.index 49 (.agg (ck g).toArray) (.int .i64 0)).run Try.prog w = .ok (.int .i32 (g 0 : Nat)) w := by kernel_rfl
theorem cix1 (g : Clk) (w : World) : (Instr.index 49 (.agg (ck g).toArray) (.int .i64 1)).run Try.prog w = .ok (.int .i32 (g 1 : Nat)) w := by kernel_rfl
theorem cix2 (g : Clk) (w : World) : (Instr.index 49 (.agg (ck g).toArray) (.int .i64 2)).run Try.prog w = .ok (.int .i32 (g 2 : Nat)) w := by kernel_rfl
theorem cix3 (g : Clk) (w : World) : (Instr.index 49 (.agg (ck g).toArray) (.int .i64 3)).run Try.prog w = .ok (.int .i32 (g 3 : Nat)) w := by kernel_rfl
theorem cix4 (g : Clk) (w : World) : (Instr.index 49 (.agg (ck g).toArray) (.int .i64 4)).run Try.prog w = .ok (.int .i32 (g 4 : Nat)) w := by kernel_rfl
theorem cix5 (g : Clk) (w : World) : (Instr.index 49 (.agg (ck g).toArray) (.int .i64 5)).run Try.prog w = .ok (.int .i32 (g 5 : Nat)) w := by kernel_rfl
theorem cix6 (g : Clk) (w : World) : (Instr.index 49 (.agg (ck g).toArray) (.int .i64 6)).run Try.prog w = .ok (.int .i32 (g 6 : Nat)) w := by kernel_rfl
theorem cix7 (g : Clk) (w : World) : (Instr.index 49 (.agg (ck g).toArray) (.int .i64 7)).run Try.prog w = .ok (.int .i32 (g 7 : Nat)) w := by kernel_rfl
theorem cix8 (g : Clk) (w : World) : (Instr.index 49 (.agg (ck g).toArray) (.int .i64 8)).run Try.prog w = .ok (.int .i32 (g 8 : Nat)) w := by kernel_rfl
theorem cix9 (g : Clk) (w : World) : (Instr.index 49 (.agg (ck g).toArray) (.int .i64 9)).run Try.prog w = .ok (.int .i32 (g 9 : Nat)) w := by kernel_rfl
theorem cix10 (g : Clk) (w : World) : (Instr.index 49 (.agg (ck g).toArray) (.int .i64 10)).run Try.prog w = .ok (.int .i32 (g 10 : Nat)) w := by kernel_rfl
theorem cix11 (g : Clk) (w : World) : (Instr.index 49 (.agg (ck g).toArray) (.int .i64 11)).run Try.prog w = .ok (.int .i32 (g 11 : Nat)) w := by kernel_rfl
theorem cix12 (g : Clk) (w : World) : (Instr.index 49 (.agg (ck g).toArray) (.int .i64 12)).run Try.prog w = .ok (.int .i32 (g 12 : Nat)) w := by kernel_rfl
theorem cix13 (g : Clk) (w : World) : (Instr.index 49 (.agg (ck g).toArray) (.int .i64 13)).run Try.prog w = .ok (.int .i32 (g 13 : Nat)) w := by kernel_rfl
theorem cix14 (g : Clk) (w : World) : (Instr.index 49 (.agg (ck g).toArray) (.int .i64 14)).run Try.prog w = .ok (.int .i32 (g 14 : Nat)) w := by kernel_rfl
theorem cix15 (g : Clk) (w : World) : (Instr.index 49 (.agg (ck g).toArray) (.int .i64 15)).run Try.prog w = .ok (.int .i32 (g 15 : Nat)) w := by kernel_rfl
theorem clk_index (g : Clk) (i : Nat) (h : i < 16) (w : World) : (Instr.index 49 (.agg (ck g).toArray) (.int .i64 (i : Int))).run Try.prog w = .ok (.int .i32 (g i : Nat)) w := by
  have e : i = 0 ∨ i = 1 ∨ i = 2 ∨ i = 3 ∨ i = 4 ∨ i = 5 ∨ i = 6 ∨ i = 7 ∨ i = 8 ∨ i = 9 ∨ i = 10 ∨ i = 11 ∨ i = 12 ∨ i = 13 ∨ i = 14 ∨ i = 15 := by omega
  rcases e with rfl | rfl | rfl | rfl | rfl | rfl | rfl | rfl | rfl | rfl | rfl | rfl | rfl | rfl | rfl | rfl
  · exact cix0 g w
  · exact cix1 g w
  · exact cix2 g w
  · exact cix3 g w
  · exact cix4 g w
  · exact cix5 g w
  · exact cix6 g w
  · exact cix7 g w
  · exact cix8 g w
  · exact cix9 g w
  · exact cix10 g w
  · exact cix11 g w
  · exact cix12 g w
  · exact cix13 g w
  · exact cix14 g w
  · exact cix15 g w
/-- Joined as far as k clients. -/
def joinTo (a b : Clk) (k : Nat) : Clk := fun i => if i < k then max (a i) (b i) else a i
theorem joinTo_all (a b : Clk) {i : Nat} (h : i < 16) : joinTo a b 16 i = joinC a b i := by simp [joinTo, joinC, h]
theorem joinTo_zero (a b : Clk) (i : Nat) : joinTo a b 0 i = a i := by simp [joinTo]
theorem joinTo_at (a b : Clk) (k : Nat) : joinTo a b k k = a k := by simp [joinTo]
theorem joinTo_succ (a b : Clk) (k i : Nat) : upd (joinTo a b k) k (max (a k) (b k)) i = joinTo a b (k + 1) i := by
  unfold upd joinTo
  by_cases h : i = k
  · subst h; simp
  · rw [if_neg h]
    by_cases h2 : i < k
    · rw [if_pos h2, if_pos (by omega)]
    · rw [if_neg h2, if_neg (by omega)]
set_option maxHeartbeats 1000000 in
set_option maxRecDepth 100000 in
theorem join_any (b n c : Nat) (t : TypeId) (f : Nat → Clk) (g : Clk) (w : World) (hG : Grid w b n t f) (hc : c < n) :
    Calls Try.prog 32 #[.pointer (some ⟨b, c * 16, none⟩), .agg (ck g).toArray] w fun e w' => e = .returned (.tuple #[]) ∧ Grid w' b n t (upd f c (joinC (f c) g)) ∧ Fr (· = b) w w' := by
  have hidx := clk_index g
  have hB : Fr (· = b) w (w.alloc (.cells (ck g).toArray 49)) := (Fr.refl _ w).alloc _
  have hnew := heap_alloc_new w (.cells (ck g).toArray 49)
  have hG1 : Grid (w.alloc (.cells (ck g).toArray 49)) b n t f := hG.keep (Below.heap_alloc _ _ _ hG.lt)
  go_enter Try.func32, Try.ntmps32
  go_wp2_with (refine wpList_load_row rfl 49 _ rfl w.heap.size rfl _ _ _ _ hnew clk_u rfl (by rw [clk_i]; simp [ck_len]) ?_)
  clear hnew
  generalize w.alloc (.cells (ck g).toArray 49) = W1 at hB hG1 ⊢
  have hst : Grid W1 b n t (upd f c (joinTo (f c) g 0)) := hG1.congr (fun c' _ i _ => by
    by_cases e : c' = c
    · subst e; rw [upd_same, joinTo_zero]
    · rw [upd_other _ _ e])
  clear hG1 hG
  go_loopw [7] (fun i wr => ∃ k : Nat, k ≤ 16 ∧ i = .int .i64 k ∧ Grid wr b n t (upd f c (joinTo (f c) g k)) ∧ Fr (· = b) w wr) (fun i _ => 16 - (intOf i).toNat)
  case atStart => exact ⟨0, by omega, rfl, hst, hB⟩
  case round =>
    obtain ⟨k, hk, rfl, hG, hF⟩ := hrel
    by_cases hlt : k < 16
    · have hcell := hG.cell hc hlt
      have hfz := hG.frozen (c * 16 + k)
      have hi := hidx k hlt
      rw [upd_same, joinTo_at] at hcell
      clear hidx
      have hFin : ∀ v : Nat, v = max (f c k) (g k) → Grid (wr.setCell ⟨b, c * 16 + k, none⟩ (.int .i32 (v : Nat))) b n t (upd f c (joinTo (f c) g (k + 1))) ∧ Fr (· = b) w (wr.setCell ⟨b, c * 16 + k, none⟩ (.int .i32 (v : Nat))) := fun v hv => by
        refine ⟨(hG.set hc hlt v).congr (fun c' _ i _ => ?_), hF.set _ _ (.inl rfl)⟩
        by_cases e : c' = c
        · subst e
          rw [upd_same, upd_same, upd_same, hv, joinTo_succ]
        · rw [upd_other _ _ e, upd_other _ _ e, upd_other _ _ e]
      replace hFin := hid_of hFin
      clear hst hG hF hB
      by_cases hm : f c k < g k
      · go_wp2_with fail
        go_region
        all_goals
          go_wp2_with fail
          go_roundw
          case rel => exact ⟨k + 1, by omega, by go_num, (hFin.out (g k) (by omega)).1, (hFin.out (g k) (by omega)).2.drew⟩
          case measure => simp [intOf]; omega
      · go_wp2_with fail
        go_region
        all_goals
          go_wp2_with fail
          go_roundw
          case rel => exact ⟨k + 1, by omega, by go_num, (hFin.out (f c k) (by omega)).1, (hFin.out (f c k) (by omega)).2.drew⟩
          case measure => simp [intOf]; omega
    · obtain rfl : k = 16 := by omega
      go_wp2_with fail
      go_end0
      exact ⟨rfl, hG.congr (fun c' _ i hi => by
        by_cases e : c' = c
        · subst e; rw [upd_same, upd_same, joinTo_all _ _ hi]
        · rw [upd_other _ _ e, upd_other _ _ e]), hF⟩
end Go.Proofs.Ytdgdfpgekccibab
