import Derived.Test.YtnhijkmddfhcbaaGreatDoorX1
import Derived.Test.YtnhijkmddfhcbaaGreatDoorShelf4
import Derived.Lib.DecodeN
import Derived.Lib.RuneCountTail
namespace Go.Proofs.YtnhijkmddfhcbaaGreatDoor
open Go Go.RowKit Go.Maps
theorem below_drewN {B : Nat} {a w : World} (h : Below B a w) (n : Nat) : Below B a (w.drewN n) := ⟨h.os, h.tape, h.output, h.size, h.block⟩
theorem full_ge (s : ByteArray) (k : Nat) (xz sz : Int) (n0 : (s.size : Int) ≥ sz) (h0 : 0 < s.size) (c0 : Int) (hc0 : ((s[0]'h0).toNat : Int) = c0) (hck : c0 = (k : Int)) (w : World) (t1 : w.cell? ⟨1, k, none⟩ = some (.int .u8 xz)) (k1 : c0 < 256) (f1 : bits .and .u8 xz 7 = sz) (hz0 : 0 ≤ sz) (hz1 : sz ≤ 7) :
    Calls Tryz.prog 93 #[.string s] w fun e w' => e = .returned (.bool true) ∧ Below w.heap.size w w' := by
  have i1 : (0 : Int) < (s.size : Int) := by omega
  go_enter Tryz.func93, Tryz.ntmps93
  go_wp2_with fail
  go_ret
  exact ⟨rfl, Below.refl _ _⟩
set_option maxHeartbeats 1000000 in
theorem full_a (s : ByteArray) (k : Nat) (xz sz : Int) (n0 : ¬ (s.size : Int) ≥ sz) (h0 : 0 < s.size) (c0 : Int) (hc0 : ((s[0]'h0).toNat : Int) = c0) (hck : c0 = (k : Int)) (w : World) (t1 : w.cell? ⟨1, k, none⟩ = some (.int .u8 xz)) (k1 : c0 < 256) (f1 : bits .and .u8 xz 7 = sz) (hz0 : 0 ≤ sz) (hz1 : sz ≤ 7) (x0 : 0 ≤ xz) (x1 : xz ≤ 255) (lo hi : Int) (t2 : w.cell? ⟨2, (xz / 16).toNat * 2, none⟩ = some (.int .u8 lo)) (t3 : w.cell? ⟨2, (xz / 16).toNat * 2 + 1, none⟩ = some (.int .u8 hi)) (n1 : decide ((s.size : Int) > 1) = false) (n2 : decide ((s.size : Int) > 2) = false) :
    Calls Tryz.prog 93 #[.string s] w fun e w' => e = .returned (.bool false) ∧ Below w.heap.size w w' := by
  have i1 : (0 : Int) < (s.size : Int) := by omega
  have hB : ∀ o, Below w.heap.size w (w.alloc o) := fun o => (Below.refl _ _).alloc (Nat.le_refl _) _
  go_enter Tryz.func93, Tryz.ntmps93
  go_wp2_with fail
  go_quiet (fail)
  go_wp2_with fail
  go_ret
  exact ⟨rfl, below_drewN (hB _) _⟩
set_option maxHeartbeats 1000000 in
theorem full_b (s : ByteArray) (k : Nat) (xz sz : Int) (n0 : ¬ (s.size : Int) ≥ sz) (h0 : 0 < s.size) (c0 : Int) (hc0 : ((s[0]'h0).toNat : Int) = c0) (hck : c0 = (k : Int)) (w : World) (t1 : w.cell? ⟨1, k, none⟩ = some (.int .u8 xz)) (k1 : c0 < 256) (f1 : bits .and .u8 xz 7 = sz) (hz0 : 0 ≤ sz) (hz1 : sz ≤ 7) (x0 : 0 ≤ xz) (x1 : xz ≤ 255) (lo hi : Int) (t2 : w.cell? ⟨2, (xz / 16).toNat * 2, none⟩ = some (.int .u8 lo)) (t3 : w.cell? ⟨2, (xz / 16).toNat * 2 + 1, none⟩ = some (.int .u8 hi)) (h1 : 1 < s.size) (b1 : Int) (hc1 : ((s[1]'h1).toNat : Int) = b1) (n1 : (s.size : Int) > 1) (l1 : b1 < lo) :
    Calls Tryz.prog 93 #[.string s] w fun e w' => e = .returned (.bool true) ∧ Below w.heap.size w w' := by
  have i1 : (0 : Int) < (s.size : Int) := by omega
  have hB : ∀ o, Below w.heap.size w (w.alloc o) := fun o => (Below.refl _ _).alloc (Nat.le_refl _) _
  go_enter Tryz.func93, Tryz.ntmps93
  go_wp2_with fail
  go_quiet (fail)
  go_wp2_with fail
  go_ret
  exact ⟨rfl, below_drewN (hB _) _⟩
set_option maxHeartbeats 1000000 in
theorem full_c (s : ByteArray) (k : Nat) (xz sz : Int) (n0 : ¬ (s.size : Int) ≥ sz) (h0 : 0 < s.size) (c0 : Int) (hc0 : ((s[0]'h0).toNat : Int) = c0) (hck : c0 = (k : Int)) (w : World) (t1 : w.cell? ⟨1, k, none⟩ = some (.int .u8 xz)) (k1 : c0 < 256) (f1 : bits .and .u8 xz 7 = sz) (hz0 : 0 ≤ sz) (hz1 : sz ≤ 7) (x0 : 0 ≤ xz) (x1 : xz ≤ 255) (lo hi : Int) (t2 : w.cell? ⟨2, (xz / 16).toNat * 2, none⟩ = some (.int .u8 lo)) (t3 : w.cell? ⟨2, (xz / 16).toNat * 2 + 1, none⟩ = some (.int .u8 hi)) (h1 : 1 < s.size) (b1 : Int) (hc1 : ((s[1]'h1).toNat : Int) = b1) (n1 : (s.size : Int) > 1) (l1 : decide (b1 < lo) = false) (g1 : hi < b1) :
    Calls Tryz.prog 93 #[.string s] w fun e w' => e = .returned (.bool true) ∧ Below w.heap.size w w' := by
  have i1 : (0 : Int) < (s.size : Int) := by omega
  have hB : ∀ o, Below w.heap.size w (w.alloc o) := fun o => (Below.refl _ _).alloc (Nat.le_refl _) _
  go_enter Tryz.func93, Tryz.ntmps93
  go_wp2_with fail
  go_quiet (fail)
  go_wp2_with fail
  go_ret
  exact ⟨rfl, below_drewN (hB _) _⟩
set_option maxHeartbeats 1000000 in
theorem full_d (s : ByteArray) (k : Nat) (xz sz : Int) (n0 : ¬ (s.size : Int) ≥ sz) (h0 : 0 < s.size) (c0 : Int) (hc0 : ((s[0]'h0).toNat : Int) = c0) (hck : c0 = (k : Int)) (w : World) (t1 : w.cell? ⟨1, k, none⟩ = some (.int .u8 xz)) (k1 : c0 < 256) (f1 : bits .and .u8 xz 7 = sz) (hz0 : 0 ≤ sz) (hz1 : sz ≤ 7) (x0 : 0 ≤ xz) (x1 : xz ≤ 255) (lo hi : Int) (t2 : w.cell? ⟨2, (xz / 16).toNat * 2, none⟩ = some (.int .u8 lo)) (t3 : w.cell? ⟨2, (xz / 16).toNat * 2 + 1, none⟩ = some (.int .u8 hi)) (h1 : 1 < s.size) (b1 : Int) (hc1 : ((s[1]'h1).toNat : Int) = b1) (n1 : (s.size : Int) > 1) (l1 : decide (b1 < lo) = false) (g1 : decide (hi < b1) = false) (n2 : decide ((s.size : Int) > 2) = false) :
    Calls Tryz.prog 93 #[.string s] w fun e w' => e = .returned (.bool false) ∧ Below w.heap.size w w' := by
  have i1 : (0 : Int) < (s.size : Int) := by omega
  have hB : ∀ o, Below w.heap.size w (w.alloc o) := fun o => (Below.refl _ _).alloc (Nat.le_refl _) _
  go_enter Tryz.func93, Tryz.ntmps93
  go_wp2_with fail
  go_quiet (fail)
  go_wp2_with fail
  go_ret
  exact ⟨rfl, below_drewN (hB _) _⟩
set_option maxHeartbeats 1000000 in
theorem full_e (s : ByteArray) (k : Nat) (xz sz : Int) (n0 : ¬ (s.size : Int) ≥ sz) (h0 : 0 < s.size) (c0 : Int) (hc0 : ((s[0]'h0).toNat : Int) = c0) (hck : c0 = (k : Int)) (w : World) (t1 : w.cell? ⟨1, k, none⟩ = some (.int .u8 xz)) (k1 : c0 < 256) (f1 : bits .and .u8 xz 7 = sz) (hz0 : 0 ≤ sz) (hz1 : sz ≤ 7) (x0 : 0 ≤ xz) (x1 : xz ≤ 255) (lo hi : Int) (t2 : w.cell? ⟨2, (xz / 16).toNat * 2, none⟩ = some (.int .u8 lo)) (t3 : w.cell? ⟨2, (xz / 16).toNat * 2 + 1, none⟩ = some (.int .u8 hi)) (h1 : 1 < s.size) (b1 : Int) (hc1 : ((s[1]'h1).toNat : Int) = b1) (h2 : 2 < s.size) (b2 : Int) (hc2 : ((s[2]'h2).toNat : Int) = b2) (n1 : (s.size : Int) > 1) (l1 : decide (b1 < lo) = false) (g1 : decide (hi < b1) = false) (n2 : (s.size : Int) > 2) (l2 : b2 < 128) :
    Calls Tryz.prog 93 #[.string s] w fun e w' => e = .returned (.bool true) ∧ Below w.heap.size w w' := by
  have i1 : (0 : Int) < (s.size : Int) := by omega
  have hB : ∀ o, Below w.heap.size w (w.alloc o) := fun o => (Below.refl _ _).alloc (Nat.le_refl _) _
  go_enter Tryz.func93, Tryz.ntmps93
  go_wp2_with fail
  go_quiet (fail)
  go_wp2_with fail
  go_ret
  exact ⟨rfl, below_drewN (hB _) _⟩
set_option maxHeartbeats 1000000 in
theorem full_f (s : ByteArray) (k : Nat) (xz sz : Int) (n0 : ¬ (s.size : Int) ≥ sz) (h0 : 0 < s.size) (c0 : Int) (hc0 : ((s[0]'h0).toNat : Int) = c0) (hck : c0 = (k : Int)) (w : World) (t1 : w.cell? ⟨1, k, none⟩ = some (.int .u8 xz)) (k1 : c0 < 256) (f1 : bits .and .u8 xz 7 = sz) (hz0 : 0 ≤ sz) (hz1 : sz ≤ 7) (x0 : 0 ≤ xz) (x1 : xz ≤ 255) (lo hi : Int) (t2 : w.cell? ⟨2, (xz / 16).toNat * 2, none⟩ = some (.int .u8 lo)) (t3 : w.cell? ⟨2, (xz / 16).toNat * 2 + 1, none⟩ = some (.int .u8 hi)) (h1 : 1 < s.size) (b1 : Int) (hc1 : ((s[1]'h1).toNat : Int) = b1) (h2 : 2 < s.size) (b2 : Int) (hc2 : ((s[2]'h2).toNat : Int) = b2) (n1 : (s.size : Int) > 1) (l1 : decide (b1 < lo) = false) (g1 : decide (hi < b1) = false) (n2 : (s.size : Int) > 2) (l2 : decide (b2 < 128) = false) (g2 : 191 < b2) :
    Calls Tryz.prog 93 #[.string s] w fun e w' => e = .returned (.bool true) ∧ Below w.heap.size w w' := by
  have i1 : (0 : Int) < (s.size : Int) := by omega
  have hB : ∀ o, Below w.heap.size w (w.alloc o) := fun o => (Below.refl _ _).alloc (Nat.le_refl _) _
  go_enter Tryz.func93, Tryz.ntmps93
  go_wp2_with fail
  go_quiet (fail)
  go_wp2_with fail
  go_ret
  exact ⟨rfl, below_drewN (hB _) _⟩
set_option maxHeartbeats 1000000 in
theorem full_g (s : ByteArray) (k : Nat) (xz sz : Int) (n0 : ¬ (s.size : Int) ≥ sz) (h0 : 0 < s.size) (c0 : Int) (hc0 : ((s[0]'h0).toNat : Int) = c0) (hck : c0 = (k : Int)) (w : World) (t1 : w.cell? ⟨1, k, none⟩ = some (.int .u8 xz)) (k1 : c0 < 256) (f1 : bits .and .u8 xz 7 = sz) (hz0 : 0 ≤ sz) (hz1 : sz ≤ 7) (x0 : 0 ≤ xz) (x1 : xz ≤ 255) (lo hi : Int) (t2 : w.cell? ⟨2, (xz / 16).toNat * 2, none⟩ = some (.int .u8 lo)) (t3 : w.cell? ⟨2, (xz / 16).toNat * 2 + 1, none⟩ = some (.int .u8 hi)) (h1 : 1 < s.size) (b1 : Int) (hc1 : ((s[1]'h1).toNat : Int) = b1) (h2 : 2 < s.size) (b2 : Int) (hc2 : ((s[2]'h2).toNat : Int) = b2) (n1 : (s.size : Int) > 1) (l1 : decide (b1 < lo) = false) (g1 : decide (hi < b1) = false) (n2 : (s.size : Int) > 2) (l2 : decide (b2 < 128) = false) (g2 : decide (191 < b2) = false) :
    Calls Tryz.prog 93 #[.string s] w fun e w' => e = .returned (.bool false) ∧ Below w.heap.size w w' := by
  have i1 : (0 : Int) < (s.size : Int) := by omega
  have hB : ∀ o, Below w.heap.size w (w.alloc o) := fun o => (Below.refl _ _).alloc (Nat.le_refl _) _
  go_enter Tryz.func93, Tryz.ntmps93
  go_wp2_with fail
  go_quiet (fail)
  go_wp2_with fail
  go_ret
  exact ⟨rfl, below_drewN (hB _) _⟩

/-- Whether a text begins with a whole character, or with what is none. -/
def fullN (n b0 b1 b2 : Nat) : Bool :=
  if Lib.firstT b0 % 8 ≤ n then true
  else if 1 < n ∧ (b1 < Lib.accLo (Lib.firstT b0 / 16) ∨ Lib.accHi (Lib.firstT b0 / 16) < b1) then true
  else if 2 < n ∧ (b2 < 128 ∨ 191 < b2) then true else false
theorem firstT_cases (c : Nat) : Lib.firstT c = 240 ∨ Lib.firstT c = 241 ∨ Lib.firstT c = 2 ∨ Lib.firstT c = 19 ∨ Lib.firstT c = 3 ∨ Lib.firstT c = 35 ∨ Lib.firstT c = 52 ∨ Lib.firstT c = 4 ∨ Lib.firstT c = 68 := by
  unfold Lib.firstT
  repeat' split
  all_goals simp
theorem first_and (c : Nat) : bits .and .u8 ((Lib.firstT c : Nat) : Int) 7 = ((Lib.firstT c % 8 : Nat) : Int) := by
  rcases firstT_cases c with h | h | h | h | h | h | h | h | h <;> rw [h] <;> decide
theorem first_le (c : Nat) : Lib.firstT c ≤ 241 := by
  rcases firstT_cases c with h | h | h | h | h | h | h | h | h <;> omega
theorem full_any (s : ByteArray) (h0 : 0 < s.size) (w : World) (hU : Lib.Utf8Tabs 1 2 w) :
    Calls Tryz.prog 93 #[.string s] w fun e w' => e = .returned (.bool (fullN s.size (byteAt s 0).toNat (byteAt s 1).toNat (byteAt s 2).toNat)) ∧ Below w.heap.size w w' := by
  have hk := UInt8.toNat_lt (byteAt s 0)
  have hc0 : ((s[0]'h0).toNat : Int) = ((byteAt s 0).toNat : Int) := by rw [byteAt_eq h0]
  have t1 := hU.1 (byteAt s 0).toNat hk
  have f1 := first_and (byteAt s 0).toNat
  have hx := first_le (byteAt s 0).toNat
  obtain ⟨t2, t3⟩ := hU.2 (Lib.firstT (byteAt s 0).toNat / 16) (by omega)
  have ei : ((Lib.firstT (byteAt s 0).toNat : Int) / 16).toNat * 2 = 2 * (Lib.firstT (byteAt s 0).toNat / 16) := by omega
  rw [← ei] at t2 t3
  clear ei
  have hr : ∀ r : Bool, fullN s.size (byteAt s 0).toNat (byteAt s 1).toNat (byteAt s 2).toNat = r → (Calls Tryz.prog 93 #[.string s] w fun e w' => e = .returned (.bool r) ∧ Below w.heap.size w w') → Calls Tryz.prog 93 #[.string s] w fun e w' => e = .returned (.bool (fullN s.size (byteAt s 0).toNat (byteAt s 1).toNat (byteAt s 2).toNat)) ∧ Below w.heap.size w w' := fun r h1 h2 => by rw [h1]; exact h2
  by_cases n0 : Lib.firstT (byteAt s 0).toNat % 8 ≤ s.size
  · exact hr true (by unfold fullN; rw [if_pos n0]) (full_ge s _ _ _ (by omega) h0 _ hc0 rfl w t1 (by omega) f1 (by omega) (by omega))
  · by_cases n1 : 1 < s.size
    · have hc1 : ((s[1]'n1).toNat : Int) = ((byteAt s 1).toNat : Int) := by rw [byteAt_eq n1]
      by_cases l1 : (byteAt s 1).toNat < Lib.accLo (Lib.firstT (byteAt s 0).toNat / 16)
      · exact hr true (by unfold fullN; rw [if_neg n0, if_pos ⟨n1, Or.inl l1⟩]) (full_b s _ _ _ (by omega) h0 _ hc0 rfl w t1 (by omega) f1 (by omega) (by omega) (by omega) (by omega) _ _ t2 t3 n1 _ hc1 (by omega) (by omega))
      · by_cases g1 : Lib.accHi (Lib.firstT (byteAt s 0).toNat / 16) < (byteAt s 1).toNat
        · exact hr true (by unfold fullN; rw [if_neg n0, if_pos ⟨n1, Or.inr g1⟩]) (full_c s _ _ _ (by omega) h0 _ hc0 rfl w t1 (by omega) f1 (by omega) (by omega) (by omega) (by omega) _ _ t2 t3 n1 _ hc1 (by omega) (by simp; omega) (by omega))
        · have c1 : ¬ (1 < s.size ∧ ((byteAt s 1).toNat < Lib.accLo (Lib.firstT (byteAt s 0).toNat / 16) ∨ Lib.accHi (Lib.firstT (byteAt s 0).toNat / 16) < (byteAt s 1).toNat)) := by omega
          by_cases n2 : 2 < s.size
          · have hc2 : ((s[2]'n2).toNat : Int) = ((byteAt s 2).toNat : Int) := by rw [byteAt_eq n2]
            by_cases l2 : (byteAt s 2).toNat < 128
            · exact hr true (by unfold fullN; rw [if_neg n0, if_neg c1, if_pos ⟨n2, Or.inl l2⟩]) (full_e s _ _ _ (by omega) h0 _ hc0 rfl w t1 (by omega) f1 (by omega) (by omega) (by omega) (by omega) _ _ t2 t3 n1 _ hc1 n2 _ hc2 (by omega) (by simp; omega) (by simp; omega) (by omega) (by omega))
            · by_cases g2 : 191 < (byteAt s 2).toNat
              · exact hr true (by unfold fullN; rw [if_neg n0, if_neg c1, if_pos ⟨n2, Or.inr g2⟩]) (full_f s _ _ _ (by omega) h0 _ hc0 rfl w t1 (by omega) f1 (by omega) (by omega) (by omega) (by omega) _ _ t2 t3 n1 _ hc1 n2 _ hc2 (by omega) (by simp; omega) (by simp; omega) (by omega) (by simp; omega) (by omega))
              · exact hr false (by unfold fullN; rw [if_neg n0, if_neg c1, if_neg (by omega)]) (full_g s _ _ _ (by omega) h0 _ hc0 rfl w t1 (by omega) f1 (by omega) (by omega) (by omega) (by omega) _ _ t2 t3 n1 _ hc1 n2 _ hc2 (by omega) (by simp; omega) (by simp; omega) (by omega) (by simp; omega) (by simp; omega))
          · exact hr false (by unfold fullN; rw [if_neg n0, if_neg c1, if_neg (by omega)]) (full_d s _ _ _ (by omega) h0 _ hc0 rfl w t1 (by omega) f1 (by omega) (by omega) (by omega) (by omega) _ _ t2 t3 n1 _ hc1 (by omega) (by simp; omega) (by simp; omega) (by simp; omega))
    · exact hr false (by unfold fullN; rw [if_neg n0, if_neg (by omega), if_neg (by omega)]) (full_a s _ _ _ (by omega) h0 _ hc0 rfl w t1 (by omega) f1 (by omega) (by omega) (by omega) (by omega) _ _ t2 t3 (by simp; omega) (by simp; omega))
end Go.Proofs.YtnhijkmddfhcbaaGreatDoor
