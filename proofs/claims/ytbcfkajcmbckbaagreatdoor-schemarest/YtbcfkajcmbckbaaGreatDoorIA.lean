import Derived.Shelf.Strconv.Itoa2
import Derived.Below
import Derived.Deep.MidRow
/-! strconv, whatever its table of powers of ten holds: a row of bytes is filled, and nothing is told of the digits. -/
namespace Go.Proofs.YtbcfkajcmbckbaaGreatDoor
open Go Go.Proofs Go.Shelf Go.RowKit Go.Sort Go.Lib
variable {P : Program} {ρ : Ren}

/-- n bytes that may be written, in block b (which lies at B or behind) from o on. -/
def B8 (B : Nat) (w W : World) (b o n : Nat) : Prop := Below B w W ∧ B ≤ b ∧ ∃ G : Nat → UInt8, ∀ t, t < n → W.cell? ⟨b, o + t, none⟩ = some (.int .u8 ((G t).toNat : Int)) ∧ W.frozen? ⟨b, o + t, none⟩ = false
theorem B8.drew {B : Nat} {w W : World} {b o n : Nat} (h : B8 B w W b o n) : B8 B w W.drew b o n := ⟨h.1.drew, h.2.1, h.2.2⟩
theorem B8.set {B : Nat} {w W : World} {b o n : Nat} (h : B8 B w W b o n) (i : Nat) (x : UInt8) {z : Int} (hz : z = (x.toNat : Int)) {p : Nat} (hp : p = o + i) : B8 B w (W.setCell ⟨b, p, none⟩ (.int .u8 z)) b o n := by
  subst hp
  subst hz
  obtain ⟨h1, h2, G, h3⟩ := h
  refine ⟨h1.setCell h2 _, h2, fun t => if t = i then x else G t, fun t ht => ⟨?_, (World.frozen?_setCell _ _ _ _).trans (h3 t ht).2⟩⟩
  by_cases e : t = i
  · subst e
    show _ = some (Value.int .u8 ((if t = t then x else G t).toNat : Int))
    rw [if_pos rfl]
    exact World.cell?_setCell_same _ _ _ (h3 t ht).1
  · show _ = some (Value.int .u8 ((if t = i then x else G t).toNat : Int))
    rw [if_neg e]
    exact (World.cell?_setCell_other _ _ _ _ (by simp <;> omega)).trans (h3 t ht).1
theorem byte_of {z : Int} (h0 : 0 ≤ z) (h1 : z < 256) : z = ((UInt8.ofNat z.toNat).toNat : Int) := by
  have : (UInt8.ofNat z.toNat).toNat = z.toNat := by simp; omega
  rw [this]; omega

set_option maxHeartbeats 12800000 in
set_option maxRecDepth 100000 in
theorem format_free (L : Lays.n285 P ρ) (B blk off cap N u : Nat) (w : World) (hB : Hid (B8 B w w blk off N)) (hu64 : u < 18446744073709551616) (hsz : N < 4611686018427387904) :
    Calls P (ρ.f 285) #[.slice (some ⟨blk, off, none⟩) N cap, .int .u64 u] w fun e w' => e = .returned (.tuple #[]) ∧ B8 B w w' blk off N := by
  have mixed := L.mixed
  have t37 := L.t37; have a37 := L.a37; have z37 := L.z37; have v37 := L.v37
  have t53 := L.t53; have a53 := L.a53; have z53 := L.z53; have v53 := L.v53
  have t3 := L.t3; have a3 := L.a3; have z3 := L.z3; have v3 := L.v3
  have t4 := L.t4; have a4 := L.a4; have z4 := L.z4; have v4 := L.v4
  have t51 := L.t51; have a51 := L.a51; have z51 := L.z51; have v51 := L.v51
  have t9 := L.t9; have a9 := L.a9; have z9 := L.z9; have v9 := L.v9
  have t5 := L.t5; have a5 := L.a5; have z5 := L.z5; have v5 := L.v5
  have t0 := L.t0; have a0 := L.a0; have z0 := L.z0; have v0 := L.v0
  go_enter L.f285, Body.n285_ntmps ρ
  go_name_bytes SM hSM
  have eSM : SM = Lib.smalls := by rw [← hSM]; decide +kernel
  subst eSM
  clear hSM
  go_wp2
  go_loopw [1, 4] (fun vu vn wr => ∃ (nd v : Nat), vu = .int .u64 v ∧ vn = .int .i64 nd ∧ nd ≤ N ∧ v < 18446744073709551616 ∧ Hid (B8 B w wr blk off N)) (fun _ vn _ => (RowKit.intOf vn).toNat)
  case atStart => exact ⟨N, u, rfl, rfl, Nat.le_refl _, hu64, hB⟩
  case round =>
    obtain ⟨nd, v, rfl, rfl, hnd, hv64, HB0⟩ := hrel
    clear hB hu64
    rename World => W0
    obtain ⟨-, -, G0, hG0⟩ := HB0.out
    have hc0 : ∀ t, t < N → W0.cell? ⟨blk, off + t, none⟩ = some (.int .u8 ((G0 t).toNat : Int)) := fun t ht => (hG0 t ht).1
    have hf0 : ∀ t, t < N → W0.frozen? ⟨blk, off + t, none⟩ = false := fun t ht => (hG0 t ht).2
    clear hG0
    by_cases h8 : 8 ≤ nd
    · obtain ⟨m, rfl⟩ : ∃ m, nd = m + 8 := ⟨nd - 8, by omega⟩
      go_wp2
      go_name_slot 9 x0 hx0
      have hlo0 : 0 ≤ x0 := by omega
      have hhi0 : x0 ≤ 198 := by omega
      clear hx0
      have hXa0 : ∀ w, (Instr.index (ρ.t 9) (.string Lib.smalls) (.int .u32 (x0 + 1))).run P w = .ok (.int .u8 ((sm (x0.toNat + 1)).toNat : Int)) w := idx_smalls (ρ.t 9) L.t9 .u32 _ _ (by omega) (by omega)
      have hXb0 : ∀ w, (Instr.index (ρ.t 9) (.string Lib.smalls) (.int .u32 x0)).run P w = .ok (.int .u8 ((sm x0.toNat).toNat : Int)) w := idx_smalls (ρ.t 9) L.t9 .u32 _ _ (by omega) (by omega)
      go_region_o
      go_wp2
      go_name_world W1 hW1
      have HB1 : Hid (B8 B w W1 blk off N) := by rw [← hW1]; exact ((HB0.out.set (m + 6 + 1) _ rfl rfl).set (m + 6) _ rfl (by first | rfl | simp)).drew
      clear hW1 hc0 hf0 hXa0 hXb0 hlo0 hhi0 HB0
      obtain ⟨-, -, G1, hG1⟩ := HB1.out
      have hc1 : ∀ t, t < N → W1.cell? ⟨blk, off + t, none⟩ = some (.int .u8 ((G1 t).toNat : Int)) := fun t ht => (hG1 t ht).1
      have hf1 : ∀ t, t < N → W1.frozen? ⟨blk, off + t, none⟩ = false := fun t ht => (hG1 t ht).2
      clear hG1
      go_name_slot 8 x1 hx1
      have hlo1 : 0 ≤ x1 := by omega
      have hhi1 : x1 ≤ 198 := by omega
      clear hx1
      have hXa1 : ∀ w, (Instr.index (ρ.t 9) (.string Lib.smalls) (.int .u32 (x1 + 1))).run P w = .ok (.int .u8 ((sm (x1.toNat + 1)).toNat : Int)) w := idx_smalls (ρ.t 9) L.t9 .u32 _ _ (by omega) (by omega)
      have hXb1 : ∀ w, (Instr.index (ρ.t 9) (.string Lib.smalls) (.int .u32 x1)).run P w = .ok (.int .u8 ((sm x1.toNat).toNat : Int)) w := idx_smalls (ρ.t 9) L.t9 .u32 _ _ (by omega) (by omega)
      go_region_o
      go_wp2
      go_name_world W2 hW2
      have HB2 : Hid (B8 B w W2 blk off N) := by rw [← hW2]; exact ((HB1.out.set (m + 4 + 1) _ rfl rfl).set (m + 4) _ rfl (by first | rfl | simp)).drew
      clear hW2 hc1 hf1 hXa1 hXb1 hlo1 hhi1 HB1
      obtain ⟨-, -, G2, hG2⟩ := HB2.out
      have hc2 : ∀ t, t < N → W2.cell? ⟨blk, off + t, none⟩ = some (.int .u8 ((G2 t).toNat : Int)) := fun t ht => (hG2 t ht).1
      have hf2 : ∀ t, t < N → W2.frozen? ⟨blk, off + t, none⟩ = false := fun t ht => (hG2 t ht).2
      clear hG2
      go_name_slot 11 x2 hx2
      have hlo2 : 0 ≤ x2 := by omega
      have hhi2 : x2 ≤ 198 := by omega
      clear hx2
      have hXa2 : ∀ w, (Instr.index (ρ.t 9) (.string Lib.smalls) (.int .u32 (x2 + 1))).run P w = .ok (.int .u8 ((sm (x2.toNat + 1)).toNat : Int)) w := idx_smalls (ρ.t 9) L.t9 .u32 _ _ (by omega) (by omega)
      have hXb2 : ∀ w, (Instr.index (ρ.t 9) (.string Lib.smalls) (.int .u32 x2)).run P w = .ok (.int .u8 ((sm x2.toNat).toNat : Int)) w := idx_smalls (ρ.t 9) L.t9 .u32 _ _ (by omega) (by omega)
      go_region_o
      go_wp2
      go_name_world W3 hW3
      have HB3 : Hid (B8 B w W3 blk off N) := by rw [← hW3]; exact ((HB2.out.set (m + 2 + 1) _ rfl rfl).set (m + 2) _ rfl (by first | rfl | simp)).drew
      clear hW3 hc2 hf2 hXa2 hXb2 hlo2 hhi2 HB2
      obtain ⟨-, -, G3, hG3⟩ := HB3.out
      have hc3 : ∀ t, t < N → W3.cell? ⟨blk, off + t, none⟩ = some (.int .u8 ((G3 t).toNat : Int)) := fun t ht => (hG3 t ht).1
      have hf3 : ∀ t, t < N → W3.frozen? ⟨blk, off + t, none⟩ = false := fun t ht => (hG3 t ht).2
      clear hG3
      go_name_slot 10 x3 hx3
      have hlo3 : 0 ≤ x3 := by omega
      have hhi3 : x3 ≤ 198 := by omega
      clear hx3
      have hXa3 : ∀ w, (Instr.index (ρ.t 9) (.string Lib.smalls) (.int .u32 (x3 + 1))).run P w = .ok (.int .u8 ((sm (x3.toNat + 1)).toNat : Int)) w := idx_smalls (ρ.t 9) L.t9 .u32 _ _ (by omega) (by omega)
      have hXb3 : ∀ w, (Instr.index (ρ.t 9) (.string Lib.smalls) (.int .u32 x3)).run P w = .ok (.int .u8 ((sm x3.toNat).toNat : Int)) w := idx_smalls (ρ.t 9) L.t9 .u32 _ _ (by omega) (by omega)
      go_region_o
      go_wp2
      go_roundw
      case rel =>
        refine ⟨m, v / 100000000, by first | go_num | (congr 1; omega), by first | go_num | (congr 1; omega), by omega, by omega, ?_⟩
        exact ((HB3.out.set (m + 1) _ rfl rfl).set m _ rfl rfl).drew
      case measure => simp [RowKit.intOf]; omega
    · have hc8 : nd = 0 ∨ nd = 1 ∨ nd = 2 ∨ nd = 3 ∨ nd = 4 ∨ nd = 5 ∨ nd = 6 ∨ nd = 7 := by omega
      rcases hc8 with rfl | rfl | rfl | rfl | rfl | rfl | rfl | rfl
      · go_wp2
        go_end0
        exact ⟨rfl, HB0.out⟩
      · go_wp2
        go_end0
        exact ⟨rfl, (HB0.out).set 0 _ (byte_of (by omega) (by omega)) (by simp)⟩
      · go_wp2
        go_name_slot 16 x0 hx0
        have hlo0 : 0 ≤ x0 := by omega
        have hhi0 : x0 ≤ 198 := by omega
        clear hx0
        have hXa0 : ∀ w, (Instr.index (ρ.t 9) (.string Lib.smalls) (.int .u32 (x0 + 1))).run P w = .ok (.int .u8 ((sm (x0.toNat + 1)).toNat : Int)) w := idx_smalls (ρ.t 9) L.t9 .u32 _ _ (by omega) (by omega)
        have hXb0 : ∀ w, (Instr.index (ρ.t 9) (.string Lib.smalls) (.int .u32 x0)).run P w = .ok (.int .u8 ((sm x0.toNat).toNat : Int)) w := idx_smalls (ρ.t 9) L.t9 .u32 _ _ (by omega) (by omega)
        go_region_o
        go_wp2
        go_end0
        exact ⟨rfl, ((HB0.out.set (0 + 1) _ rfl rfl).set (0) _ rfl (by first | rfl | simp)).drew⟩
      · go_wp2
        go_name_slot 16 x0 hx0
        have hlo0 : 0 ≤ x0 := by omega
        have hhi0 : x0 ≤ 198 := by omega
        clear hx0
        have hXa0 : ∀ w, (Instr.index (ρ.t 9) (.string Lib.smalls) (.int .u32 (x0 + 1))).run P w = .ok (.int .u8 ((sm (x0.toNat + 1)).toNat : Int)) w := idx_smalls (ρ.t 9) L.t9 .u32 _ _ (by omega) (by omega)
        have hXb0 : ∀ w, (Instr.index (ρ.t 9) (.string Lib.smalls) (.int .u32 x0)).run P w = .ok (.int .u8 ((sm x0.toNat).toNat : Int)) w := idx_smalls (ρ.t 9) L.t9 .u32 _ _ (by omega) (by omega)
        go_region_o
        go_wp2
        go_end0
        exact ⟨rfl, (((HB0.out.set (1 + 1) _ rfl rfl).set (1) _ rfl (by first | rfl | simp)).drew).set 0 _ (byte_of (by omega) (by omega)) (by simp)⟩
      · go_wp2
        go_name_slot 15 x0 hx0
        have hlo0 : 0 ≤ x0 := by omega
        have hhi0 : x0 ≤ 198 := by omega
        clear hx0
        have hXa0 : ∀ w, (Instr.index (ρ.t 9) (.string Lib.smalls) (.int .u32 (x0 + 1))).run P w = .ok (.int .u8 ((sm (x0.toNat + 1)).toNat : Int)) w := idx_smalls (ρ.t 9) L.t9 .u32 _ _ (by omega) (by omega)
        have hXb0 : ∀ w, (Instr.index (ρ.t 9) (.string Lib.smalls) (.int .u32 x0)).run P w = .ok (.int .u8 ((sm x0.toNat).toNat : Int)) w := idx_smalls (ρ.t 9) L.t9 .u32 _ _ (by omega) (by omega)
        go_region_o
        go_wp2
        go_name_world W1 hW1
        have HB1 : Hid (B8 B w W1 blk off N) := by rw [← hW1]; exact ((HB0.out.set (2 + 1) _ rfl rfl).set (2) _ rfl (by first | rfl | simp)).drew
        clear hW1 hc0 hf0 hXa0 hXb0 hlo0 hhi0 HB0
        obtain ⟨-, -, G1, hG1⟩ := HB1.out
        have hc1 : ∀ t, t < N → W1.cell? ⟨blk, off + t, none⟩ = some (.int .u8 ((G1 t).toNat : Int)) := fun t ht => (hG1 t ht).1
        have hf1 : ∀ t, t < N → W1.frozen? ⟨blk, off + t, none⟩ = false := fun t ht => (hG1 t ht).2
        clear hG1
        go_name_slot 14 x1 hx1
        have hlo1 : 0 ≤ x1 := by omega
        have hhi1 : x1 ≤ 198 := by omega
        clear hx1
        have hXa1 : ∀ w, (Instr.index (ρ.t 9) (.string Lib.smalls) (.int .u32 (x1 + 1))).run P w = .ok (.int .u8 ((sm (x1.toNat + 1)).toNat : Int)) w := idx_smalls (ρ.t 9) L.t9 .u32 _ _ (by omega) (by omega)
        have hXb1 : ∀ w, (Instr.index (ρ.t 9) (.string Lib.smalls) (.int .u32 x1)).run P w = .ok (.int .u8 ((sm x1.toNat).toNat : Int)) w := idx_smalls (ρ.t 9) L.t9 .u32 _ _ (by omega) (by omega)
        go_region_o
        go_wp2
        go_end0
        exact ⟨rfl, ((HB1.out.set (0 + 1) _ rfl rfl).set (0) _ rfl (by first | rfl | simp)).drew⟩
      · go_wp2
        go_name_slot 15 x0 hx0
        have hlo0 : 0 ≤ x0 := by omega
        have hhi0 : x0 ≤ 198 := by omega
        clear hx0
        have hXa0 : ∀ w, (Instr.index (ρ.t 9) (.string Lib.smalls) (.int .u32 (x0 + 1))).run P w = .ok (.int .u8 ((sm (x0.toNat + 1)).toNat : Int)) w := idx_smalls (ρ.t 9) L.t9 .u32 _ _ (by omega) (by omega)
        have hXb0 : ∀ w, (Instr.index (ρ.t 9) (.string Lib.smalls) (.int .u32 x0)).run P w = .ok (.int .u8 ((sm x0.toNat).toNat : Int)) w := idx_smalls (ρ.t 9) L.t9 .u32 _ _ (by omega) (by omega)
        go_region_o
        go_wp2
        go_name_world W1 hW1
        have HB1 : Hid (B8 B w W1 blk off N) := by rw [← hW1]; exact ((HB0.out.set (3 + 1) _ rfl rfl).set (3) _ rfl (by first | rfl | simp)).drew
        clear hW1 hc0 hf0 hXa0 hXb0 hlo0 hhi0 HB0
        obtain ⟨-, -, G1, hG1⟩ := HB1.out
        have hc1 : ∀ t, t < N → W1.cell? ⟨blk, off + t, none⟩ = some (.int .u8 ((G1 t).toNat : Int)) := fun t ht => (hG1 t ht).1
        have hf1 : ∀ t, t < N → W1.frozen? ⟨blk, off + t, none⟩ = false := fun t ht => (hG1 t ht).2
        clear hG1
        go_name_slot 14 x1 hx1
        have hlo1 : 0 ≤ x1 := by omega
        have hhi1 : x1 ≤ 198 := by omega
        clear hx1
        have hXa1 : ∀ w, (Instr.index (ρ.t 9) (.string Lib.smalls) (.int .u32 (x1 + 1))).run P w = .ok (.int .u8 ((sm (x1.toNat + 1)).toNat : Int)) w := idx_smalls (ρ.t 9) L.t9 .u32 _ _ (by omega) (by omega)
        have hXb1 : ∀ w, (Instr.index (ρ.t 9) (.string Lib.smalls) (.int .u32 x1)).run P w = .ok (.int .u8 ((sm x1.toNat).toNat : Int)) w := idx_smalls (ρ.t 9) L.t9 .u32 _ _ (by omega) (by omega)
        go_region_o
        go_wp2
        go_end0
        exact ⟨rfl, (((HB1.out.set (1 + 1) _ rfl rfl).set (1) _ rfl (by first | rfl | simp)).drew).set 0 _ (byte_of (by omega) (by omega)) (by simp)⟩
      · go_wp2
        go_name_slot 15 x0 hx0
        have hlo0 : 0 ≤ x0 := by omega
        have hhi0 : x0 ≤ 198 := by omega
        clear hx0
        have hXa0 : ∀ w, (Instr.index (ρ.t 9) (.string Lib.smalls) (.int .u32 (x0 + 1))).run P w = .ok (.int .u8 ((sm (x0.toNat + 1)).toNat : Int)) w := idx_smalls (ρ.t 9) L.t9 .u32 _ _ (by omega) (by omega)
        have hXb0 : ∀ w, (Instr.index (ρ.t 9) (.string Lib.smalls) (.int .u32 x0)).run P w = .ok (.int .u8 ((sm x0.toNat).toNat : Int)) w := idx_smalls (ρ.t 9) L.t9 .u32 _ _ (by omega) (by omega)
        go_region_o
        go_wp2
        go_name_world W1 hW1
        have HB1 : Hid (B8 B w W1 blk off N) := by rw [← hW1]; exact ((HB0.out.set (4 + 1) _ rfl rfl).set (4) _ rfl (by first | rfl | simp)).drew
        clear hW1 hc0 hf0 hXa0 hXb0 hlo0 hhi0 HB0
        obtain ⟨-, -, G1, hG1⟩ := HB1.out
        have hc1 : ∀ t, t < N → W1.cell? ⟨blk, off + t, none⟩ = some (.int .u8 ((G1 t).toNat : Int)) := fun t ht => (hG1 t ht).1
        have hf1 : ∀ t, t < N → W1.frozen? ⟨blk, off + t, none⟩ = false := fun t ht => (hG1 t ht).2
        clear hG1
        go_name_slot 14 x1 hx1
        have hlo1 : 0 ≤ x1 := by omega
        have hhi1 : x1 ≤ 198 := by omega
        clear hx1
        have hXa1 : ∀ w, (Instr.index (ρ.t 9) (.string Lib.smalls) (.int .u32 (x1 + 1))).run P w = .ok (.int .u8 ((sm (x1.toNat + 1)).toNat : Int)) w := idx_smalls (ρ.t 9) L.t9 .u32 _ _ (by omega) (by omega)
        have hXb1 : ∀ w, (Instr.index (ρ.t 9) (.string Lib.smalls) (.int .u32 x1)).run P w = .ok (.int .u8 ((sm x1.toNat).toNat : Int)) w := idx_smalls (ρ.t 9) L.t9 .u32 _ _ (by omega) (by omega)
        go_region_o
        go_wp2
        go_name_world W2 hW2
        have HB2 : Hid (B8 B w W2 blk off N) := by rw [← hW2]; exact ((HB1.out.set (2 + 1) _ rfl rfl).set (2) _ rfl (by first | rfl | simp)).drew
        clear hW2 hc1 hf1 hXa1 hXb1 hlo1 hhi1 HB1
        obtain ⟨-, -, G2, hG2⟩ := HB2.out
        have hc2 : ∀ t, t < N → W2.cell? ⟨blk, off + t, none⟩ = some (.int .u8 ((G2 t).toNat : Int)) := fun t ht => (hG2 t ht).1
        have hf2 : ∀ t, t < N → W2.frozen? ⟨blk, off + t, none⟩ = false := fun t ht => (hG2 t ht).2
        clear hG2
        go_name_slot 16 x2 hx2
        have hlo2 : 0 ≤ x2 := by omega
        have hhi2 : x2 ≤ 198 := by omega
        clear hx2
        have hXa2 : ∀ w, (Instr.index (ρ.t 9) (.string Lib.smalls) (.int .u32 (x2 + 1))).run P w = .ok (.int .u8 ((sm (x2.toNat + 1)).toNat : Int)) w := idx_smalls (ρ.t 9) L.t9 .u32 _ _ (by omega) (by omega)
        have hXb2 : ∀ w, (Instr.index (ρ.t 9) (.string Lib.smalls) (.int .u32 x2)).run P w = .ok (.int .u8 ((sm x2.toNat).toNat : Int)) w := idx_smalls (ρ.t 9) L.t9 .u32 _ _ (by omega) (by omega)
        go_region_o
        go_wp2
        go_end0
        exact ⟨rfl, ((HB2.out.set (0 + 1) _ rfl rfl).set (0) _ rfl (by first | rfl | simp)).drew⟩
      · go_wp2
        go_name_slot 15 x0 hx0
        have hlo0 : 0 ≤ x0 := by omega
        have hhi0 : x0 ≤ 198 := by omega
        clear hx0
        have hXa0 : ∀ w, (Instr.index (ρ.t 9) (.string Lib.smalls) (.int .u32 (x0 + 1))).run P w = .ok (.int .u8 ((sm (x0.toNat + 1)).toNat : Int)) w := idx_smalls (ρ.t 9) L.t9 .u32 _ _ (by omega) (by omega)
        have hXb0 : ∀ w, (Instr.index (ρ.t 9) (.string Lib.smalls) (.int .u32 x0)).run P w = .ok (.int .u8 ((sm x0.toNat).toNat : Int)) w := idx_smalls (ρ.t 9) L.t9 .u32 _ _ (by omega) (by omega)
        go_region_o
        go_wp2
        go_name_world W1 hW1
        have HB1 : Hid (B8 B w W1 blk off N) := by rw [← hW1]; exact ((HB0.out.set (5 + 1) _ rfl rfl).set (5) _ rfl (by first | rfl | simp)).drew
        clear hW1 hc0 hf0 hXa0 hXb0 hlo0 hhi0 HB0
        obtain ⟨-, -, G1, hG1⟩ := HB1.out
        have hc1 : ∀ t, t < N → W1.cell? ⟨blk, off + t, none⟩ = some (.int .u8 ((G1 t).toNat : Int)) := fun t ht => (hG1 t ht).1
        have hf1 : ∀ t, t < N → W1.frozen? ⟨blk, off + t, none⟩ = false := fun t ht => (hG1 t ht).2
        clear hG1
        go_name_slot 14 x1 hx1
        have hlo1 : 0 ≤ x1 := by omega
        have hhi1 : x1 ≤ 198 := by omega
        clear hx1
        have hXa1 : ∀ w, (Instr.index (ρ.t 9) (.string Lib.smalls) (.int .u32 (x1 + 1))).run P w = .ok (.int .u8 ((sm (x1.toNat + 1)).toNat : Int)) w := idx_smalls (ρ.t 9) L.t9 .u32 _ _ (by omega) (by omega)
        have hXb1 : ∀ w, (Instr.index (ρ.t 9) (.string Lib.smalls) (.int .u32 x1)).run P w = .ok (.int .u8 ((sm x1.toNat).toNat : Int)) w := idx_smalls (ρ.t 9) L.t9 .u32 _ _ (by omega) (by omega)
        go_region_o
        go_wp2
        go_name_world W2 hW2
        have HB2 : Hid (B8 B w W2 blk off N) := by rw [← hW2]; exact ((HB1.out.set (3 + 1) _ rfl rfl).set (3) _ rfl (by first | rfl | simp)).drew
        clear hW2 hc1 hf1 hXa1 hXb1 hlo1 hhi1 HB1
        obtain ⟨-, -, G2, hG2⟩ := HB2.out
        have hc2 : ∀ t, t < N → W2.cell? ⟨blk, off + t, none⟩ = some (.int .u8 ((G2 t).toNat : Int)) := fun t ht => (hG2 t ht).1
        have hf2 : ∀ t, t < N → W2.frozen? ⟨blk, off + t, none⟩ = false := fun t ht => (hG2 t ht).2
        clear hG2
        go_name_slot 16 x2 hx2
        have hlo2 : 0 ≤ x2 := by omega
        have hhi2 : x2 ≤ 198 := by omega
        clear hx2
        have hXa2 : ∀ w, (Instr.index (ρ.t 9) (.string Lib.smalls) (.int .u32 (x2 + 1))).run P w = .ok (.int .u8 ((sm (x2.toNat + 1)).toNat : Int)) w := idx_smalls (ρ.t 9) L.t9 .u32 _ _ (by omega) (by omega)
        have hXb2 : ∀ w, (Instr.index (ρ.t 9) (.string Lib.smalls) (.int .u32 x2)).run P w = .ok (.int .u8 ((sm x2.toNat).toNat : Int)) w := idx_smalls (ρ.t 9) L.t9 .u32 _ _ (by omega) (by omega)
        go_region_o
        go_wp2
        go_end0
        exact ⟨rfl, (((HB2.out.set (1 + 1) _ rfl rfl).set (1) _ rfl (by first | rfl | simp)).drew).set 0 _ (byte_of (by omega) (by omega)) (by simp)⟩
end Go.Proofs.YtbcfkajcmbckbaaGreatDoor
