import Derived.Test.YtnhijkmddfhcbaaGreatDoorW20
namespace Go.Proofs.YtnhijkmddfhcbaaGreatDoor
open Go Go.RowKit Go.Maps

def upTo (f : Nat → Nat) : Nat → Nat
  | 0 => 0
  | i + 1 => upTo f i + f i
theorem upTo_mono (f : Nat → Nat) {a b : Nat} (h : a ≤ b) : upTo f a ≤ upTo f b := by
  induction b with
  | zero => have : a = 0 := by omega
            rw [this]; exact Nat.le_refl _
  | succ b ih =>
    by_cases e : a = b + 1
    · rw [e]; exact Nat.le_refl _
    · have := ih (by omega); show upTo f a ≤ upTo f b + f b; omega
def nameLen (ns : List ByteArray) (i : Nat) : Nat := (qT (nth ns i)).length + 1

set_option maxHeartbeats 1000000 in
theorem nest_ss (kd x : Int) (s : ByteArray) (gn N : Nat) (c1 : Nat) (g M : Nat) (c2 : Nat) (ns : List ByteArray) (f : Nat → Nat) (w : World) (hgn : gn < w.heap.size) (hN : N ≤ 65536) (hnb : upTo (nameLen ns) N ≤ 1000000000000) (hNc : Hid (∀ i, i < N → w.cell? ⟨gn, i, none⟩ = some (.string (nth ns i)) ∧ okT (nth ns i))) (hg : g < w.heap.size) (hM : M ≤ 65536) (hfb : upTo f M ≤ 1000000000000) (hIt : Hid (ItemsGood 22 #[] (fun i => .int .i64 (f i)) w g M)) :
    Calls Tryz.prog 32 #[.agg #[.int .i64 kd, .int .i64 x, .string s, .slice (some ⟨gn, 0, none⟩) N c1, .slice (some ⟨g, 0, none⟩) M c2]] w fun e w' => e = .returned (.int .i64 ((2 + (M - 1) + upTo (nameLen ns) N + upTo f M : Nat) : Int)) ∧ Below w.heap.size w w' := by
  have HB0 : Hid (Below (w.heap.size + 1) (w.alloc (.cells #[.int .i64 kd, .int .i64 x, .string s, .slice (some ⟨gn, 0, none⟩) N c1, .slice (some ⟨g, 0, none⟩) M c2] 26)) (w.alloc (.cells #[.int .i64 kd, .int .i64 x, .string s, .slice (some ⟨gn, 0, none⟩) N c1, .slice (some ⟨g, 0, none⟩) M c2] 26))) := Below.refl _ _
  go_enter Tryz.func32, Tryz.ntmps32
  go_wp2_with fail
  go_loopw [3, 18] (fun m i wr => ∃ q : Nat, q ≤ N ∧ i = .int .i64 q ∧ m = .int .i64 ((2 + (M - 1) + upTo (nameLen ns) q : Nat) : Int) ∧ Below (w.heap.size + 1) (w.alloc (.cells #[.int .i64 kd, .int .i64 x, .string s, .slice (some ⟨gn, 0, none⟩) N c1, .slice (some ⟨g, 0, none⟩) M c2] 26)) wr) (fun _ i wr => N - (intOf i).toNat)
  case atStart => exact ⟨0, Nat.zero_le _, rfl, congrArg (Value.int .i64) (by simp only [upTo]; omega), HB0.out⟩
  case round =>
    obtain ⟨q, hq, rfl, rfl, hbx⟩ := hrel
    have hbw := below_box hbx
    by_cases hlt : q < N
    · obtain ⟨hc, ho⟩ := hNc.out q hlt
      have nc : wr.cell? ⟨gn, q, none⟩ = some (.string (nth ns q)) := (World.cell?_of_block (w := w) (a := ⟨gn, q, none⟩) (hbw.block gn hgn)).trans hc
      have hstep : upTo (nameLen ns) (q + 1) = upTo (nameLen ns) q + ((qT (nth ns q)).length + 1) := rfl
      have hle : upTo (nameLen ns) (q + 1) ≤ upTo (nameLen ns) N := upTo_mono _ (by omega)
      have b1 : ((2 + (M - 1) + upTo (nameLen ns) q : Nat) : Int) ≤ 2000000000000 := by omega
      have b2 : ((qT (nth ns q)).length : Int) ≤ 400000 := by have := ho.1; have := qT_len (nth ns q); omega
      have b4 : (0 : Int) ≤ ((qT (nth ns q)).length : Int) := by omega
      have b3 : (0 : Int) ≤ ((2 + (M - 1) + upTo (nameLen ns) q : Nat) : Int) := by omega
      have HE : Hid (((2 + (M - 1) + upTo (nameLen ns) q : Nat) : Int) + (((qT (nth ns q)).length : Int) + 1) = ((2 + (M - 1) + upTo (nameLen ns) (q + 1) : Nat) : Int)) := by unfold Hid; omega
      have i1 : (q : Int) < (N : Int) := by omega
      have hsz := hbx.size
      rw [World.size_alloc] at hsz
      clear hstep hle hc
      generalize nth ns q = nm at *
      generalize hT : (2 + (M - 1) + upTo (nameLen ns) q : Nat) = tt at *
      have HT := hT
      clear HT hT
      go_wp2_with fail
      refine (qlen_any nm ho wr).mono ?_
      rintro e w2 ⟨rfl, hb2⟩
      have hbx2 := hbx.trans (hb2.mono hsz)
      clear hb2 nc
      go_wp2_with fail
      go_roundw
      case rel => exact ⟨q + 1, by omega, by go_num, congrArg (Value.int .i64) HE.out, hbx2⟩
      case measure => simp [intOf]; omega
    · have hqe : q = N := by omega
      subst hqe
      clear hlt hq
      have y4 : wr.cell? ⟨w.heap.size, 4, none⟩ = some (.slice (some ⟨g, 0, none⟩) M c2) := box_cells hbx 4
      go_wp2_with fail
      clear y4
      go_loopw [3, 31] (fun m i wr => ∃ p : Nat, p ≤ M ∧ i = .int .i64 p ∧ m = .int .i64 ((2 + (M - 1) + upTo (nameLen ns) q + upTo f p : Nat) : Int) ∧ Below w.heap.size w wr) (fun _ i wr => M - (intOf i).toNat)
      case atStart => exact ⟨0, Nat.zero_le _, rfl, congrArg (Value.int .i64) (by simp only [upTo]; omega), below_box hbx⟩
      case round =>
        obtain ⟨p, hp, rfl, rfl, hbw⟩ := hrel
        by_cases hlt : p < M
        · obtain ⟨kd2, x2, s2, a12, l12, c12, a22, l22, c22, hia, hcall⟩ := hIt.out p hlt
          obtain ⟨z0, z1, z2, z3, z4⟩ := hia.keep (hbw.block g hg)
          have HC : Hid (∀ w', Below w.heap.size w w' → Calls Tryz.prog 22 (#[.agg #[.int .i64 kd2, .int .i64 x2, .string s2, .slice a12 l12 c12, .slice a22 l22 c22]] ++ #[]) w' fun e w'' => e = .returned (.int .i64 (f p)) ∧ Below w'.heap.size w' w'') := hcall
          have hle : upTo f (p + 1) ≤ upTo f M := upTo_mono _ (by omega)
          have hstep : upTo f (p + 1) = upTo f p + f p := rfl
          have b1 : ((2 + (M - 1) + upTo (nameLen ns) q + upTo f p : Nat) : Int) ≤ 3000000000000 := by omega
          have b2 : ((f p : Nat) : Int) ≤ 1000000000000 := by omega
          have b3 : (0 : Int) ≤ ((2 + (M - 1) + upTo (nameLen ns) q + upTo f p : Nat) : Int) := by omega
          have b4 : (0 : Int) ≤ ((f p : Nat) : Int) := by omega
          have HE : Hid (((2 + (M - 1) + upTo (nameLen ns) q + upTo f p : Nat) : Int) + ((f p : Nat) : Int) = ((2 + (M - 1) + upTo (nameLen ns) q + upTo f (p + 1) : Nat) : Int)) := by unfold Hid; omega
          have i1 : (p : Int) < (M : Int) := by omega
          have hsz := hbw.size
          clear hstep hle hcall hia
          generalize (2 + (M - 1) + upTo (nameLen ns) q + upTo f p : Nat) = tt at *
          generalize f p = fp at *
          go_wp2_with fail
          refine (HC.out _ (hbw.alloc hsz _)).mono ?_
          rintro e w3 ⟨rfl, hb3⟩
          have hbw3 : Below w.heap.size w w3 := (hbw.alloc hsz _).trans (hb3.mono (by simp; omega))
          clear hb3 HC z0 z1 z2 z3 z4
          go_wp2_with fail
          go_roundw
          case rel => exact ⟨p + 1, by omega, by go_num, congrArg (Value.int .i64) HE.out, hbw3⟩
          case measure => simp [intOf]; omega
        · have hpe : p = M := by omega
          subst hpe
          clear hlt hp
          go_wp2_with fail
          go_ret
          exact ⟨rfl, hbw⟩

set_option maxHeartbeats 1000000 in
theorem nest_ns (kd x : Int) (s : ByteArray) (a1 : Option Addr) (c1 : Nat) (g M : Nat) (c2 : Nat) (ns : List ByteArray) (f : Nat → Nat) (w : World) (hg : g < w.heap.size) (hM : M ≤ 65536) (hfb : upTo f M ≤ 1000000000000) (hIt : Hid (ItemsGood 22 #[] (fun i => .int .i64 (f i)) w g M)) :
    Calls Tryz.prog 32 #[.agg #[.int .i64 kd, .int .i64 x, .string s, .slice a1 0 c1, .slice (some ⟨g, 0, none⟩) M c2]] w fun e w' => e = .returned (.int .i64 ((2 + (M - 1) + upTo (nameLen ns) 0 + upTo f M : Nat) : Int)) ∧ Below w.heap.size w w' := by
  have HB0 : Hid (Below (w.heap.size + 1) (w.alloc (.cells #[.int .i64 kd, .int .i64 x, .string s, .slice a1 0 c1, .slice (some ⟨g, 0, none⟩) M c2] 26)) (w.alloc (.cells #[.int .i64 kd, .int .i64 x, .string s, .slice a1 0 c1, .slice (some ⟨g, 0, none⟩) M c2] 26))) := Below.refl _ _
  go_enter Tryz.func32, Tryz.ntmps32
  go_wp2_with fail
  refine wp_loop_rounds 1 ?_
  rw [rounds_succ]
  have hbx := HB0.out
  have y4 : (w.alloc (.cells #[.int .i64 kd, .int .i64 x, .string s, .slice a1 0 c1, .slice (some ⟨g, 0, none⟩) M c2] 26)).cell? ⟨w.heap.size, 4, none⟩ = some (.slice (some ⟨g, 0, none⟩) M c2) := box_cells hbx 4
  go_wp2_with fail
  clear y4
  go_loopw [3, 31] (fun m i wr => ∃ p : Nat, p ≤ M ∧ i = .int .i64 p ∧ m = .int .i64 ((2 + (M - 1) + upTo (nameLen ns) 0 + upTo f p : Nat) : Int) ∧ Below w.heap.size w wr) (fun _ i wr => M - (intOf i).toNat)
  case atStart => exact ⟨0, Nat.zero_le _, rfl, congrArg (Value.int .i64) (by simp only [upTo]; omega), below_box hbx⟩
  case round =>
    obtain ⟨p, hp, rfl, rfl, hbw⟩ := hrel
    by_cases hlt : p < M
    · obtain ⟨kd2, x2, s2, a12, l12, c12, a22, l22, c22, hia, hcall⟩ := hIt.out p hlt
      obtain ⟨z0, z1, z2, z3, z4⟩ := hia.keep (hbw.block g hg)
      have HC : Hid (∀ w', Below w.heap.size w w' → Calls Tryz.prog 22 (#[.agg #[.int .i64 kd2, .int .i64 x2, .string s2, .slice a12 l12 c12, .slice a22 l22 c22]] ++ #[]) w' fun e w'' => e = .returned (.int .i64 (f p)) ∧ Below w'.heap.size w' w'') := hcall
      have hle : upTo f (p + 1) ≤ upTo f M := upTo_mono _ (by omega)
      have hstep : upTo f (p + 1) = upTo f p + f p := rfl
      have b1 : ((2 + (M - 1) + upTo (nameLen ns) 0 + upTo f p : Nat) : Int) ≤ 3000000000000 := by simp only [upTo]; omega
      have b2 : ((f p : Nat) : Int) ≤ 1000000000000 := by omega
      have b3 : (0 : Int) ≤ ((2 + (M - 1) + upTo (nameLen ns) 0 + upTo f p : Nat) : Int) := by omega
      have b4 : (0 : Int) ≤ ((f p : Nat) : Int) := by omega
      have HE : Hid (((2 + (M - 1) + upTo (nameLen ns) 0 + upTo f p : Nat) : Int) + ((f p : Nat) : Int) = ((2 + (M - 1) + upTo (nameLen ns) 0 + upTo f (p + 1) : Nat) : Int)) := by unfold Hid; omega
      have i1 : (p : Int) < (M : Int) := by omega
      have hsz := hbw.size
      clear hstep hle hcall hia
      generalize (2 + (M - 1) + upTo (nameLen ns) 0 + upTo f p : Nat) = tt at *
      generalize f p = fp at *
      go_wp2_with fail
      refine (HC.out _ (hbw.alloc hsz _)).mono ?_
      rintro e w3 ⟨rfl, hb3⟩
      have hbw3 : Below w.heap.size w w3 := (hbw.alloc hsz _).trans (hb3.mono (by simp; omega))
      clear hb3 HC z0 z1 z2 z3 z4
      go_wp2_with fail
      go_roundw
      case rel => exact ⟨p + 1, by omega, by go_num, congrArg (Value.int .i64) HE.out, hbw3⟩
      case measure => simp [intOf]; omega
    · have hpe : p = M := by omega
      subst hpe
      clear hlt hp
      go_wp2_with fail
      go_ret
      exact ⟨rfl, hbw⟩

set_option maxHeartbeats 1000000 in
theorem nest_nn (kd x : Int) (s : ByteArray) (a1 : Option Addr) (c1 : Nat) (a2 : Option Addr) (c2 : Nat) (ns : List ByteArray) (f : Nat → Nat) (w : World) :
    Calls Tryz.prog 32 #[.agg #[.int .i64 kd, .int .i64 x, .string s, .slice a1 0 c1, .slice a2 0 c2]] w fun e w' => e = .returned (.int .i64 ((2 + (0 - 1) + upTo (nameLen ns) 0 + upTo f 0 : Nat) : Int)) ∧ Below w.heap.size w w' := by
  have HB0 : Hid (Below (w.heap.size + 1) (w.alloc (.cells #[.int .i64 kd, .int .i64 x, .string s, .slice a1 0 c1, .slice a2 0 c2] 26)) (w.alloc (.cells #[.int .i64 kd, .int .i64 x, .string s, .slice a1 0 c1, .slice a2 0 c2] 26))) := Below.refl _ _
  go_enter Tryz.func32, Tryz.ntmps32
  go_wp2_with fail
  refine wp_loop_rounds 1 ?_
  rw [rounds_succ]
  have hbx := HB0.out
  have y4 : (w.alloc (.cells #[.int .i64 kd, .int .i64 x, .string s, .slice a1 0 c1, .slice a2 0 c2] 26)).cell? ⟨w.heap.size, 4, none⟩ = some (.slice a2 0 c2) := box_cells hbx 4
  go_wp2_with fail
  refine wp_loop_rounds 1 ?_
  rw [rounds_succ]
  go_wp2_with fail
  go_ret
  exact ⟨ret_int (by simp only [upTo]; omega), below_box hbx⟩
end Go.Proofs.YtnhijkmddfhcbaaGreatDoor
