import Derived.Test.YtnccaidlcaeeaaaGreatDoorX1
import Derived.Test.YtnccaidlcaeeaaaGreatDoorShelf4
import Derived.Lib.DecodeN
import Derived.Lib.RuneCountTail
import Derived.Lib.TrimU
namespace Go.Proofs.YtnccaidlcaeeaaaGreatDoor
open Go Go.RowKit Go.Maps
theorem below_drewN {B : Nat} {a w : World} (h : Below B a w) (n : Nat) : Below B a (w.drewN n) := ⟨h.os, h.tape, h.output, h.size, h.block⟩
theorem full_ge (s : ByteArray) (k : Nat) (xz sz : Int) (n0 : (s.size : Int) ≥ sz) (h0 : 0 < s.size) (c0 : Int) (hc0 : ((s[0]'h0).toNat : Int) = c0) (hck : c0 = (k : Int)) (w : World) (t1 : w.cell? ⟨1, k, none⟩ = some (.int .u8 xz)) (k1 : c0 < 256) (f1 : bits .and .u8 xz 7 = sz) (hz0 : 0 ≤ sz) (hz1 : sz ≤ 7) :
    Calls Tryz.prog 119 #[.string s] w fun e w' => e = .returned (.bool true) ∧ Below w.heap.size w w' := by
  have i1 : (0 : Int) < (s.size : Int) := by omega
  go_enter Tryz.func119, Tryz.ntmps119
  go_wp2_with fail
  go_ret
  exact ⟨rfl, Below.refl _ _⟩
set_option maxHeartbeats 1000000 in
theorem full_a (s : ByteArray) (k : Nat) (xz sz : Int) (n0 : ¬ (s.size : Int) ≥ sz) (h0 : 0 < s.size) (c0 : Int) (hc0 : ((s[0]'h0).toNat : Int) = c0) (hck : c0 = (k : Int)) (w : World) (t1 : w.cell? ⟨1, k, none⟩ = some (.int .u8 xz)) (k1 : c0 < 256) (f1 : bits .and .u8 xz 7 = sz) (hz0 : 0 ≤ sz) (hz1 : sz ≤ 7) (x0 : 0 ≤ xz) (x1 : xz ≤ 255) (lo hi : Int) (t2 : w.cell? ⟨2, (xz / 16).toNat * 2, none⟩ = some (.int .u8 lo)) (t3 : w.cell? ⟨2, (xz / 16).toNat * 2 + 1, none⟩ = some (.int .u8 hi)) (n1 : decide ((s.size : Int) > 1) = false) (n2 : decide ((s.size : Int) > 2) = false) :
    Calls Tryz.prog 119 #[.string s] w fun e w' => e = .returned (.bool false) ∧ Below w.heap.size w w' := by
  have i1 : (0 : Int) < (s.size : Int) := by omega
  have hB : ∀ o, Below w.heap.size w (w.alloc o) := fun o => (Below.refl _ _).alloc (Nat.le_refl _) _
  go_enter Tryz.func119, Tryz.ntmps119
  go_wp2_with fail
  go_quiet (fail)
  go_wp2_with fail
  go_ret
  exact ⟨rfl, below_drewN (hB _) _⟩
set_option maxHeartbeats 1000000 in
theorem full_b (s : ByteArray) (k : Nat) (xz sz : Int) (n0 : ¬ (s.size : Int) ≥ sz) (h0 : 0 < s.size) (c0 : Int) (hc0 : ((s[0]'h0).toNat : Int) = c0) (hck : c0 = (k : Int)) (w : World) (t1 : w.cell? ⟨1, k, none⟩ = some (.int .u8 xz)) (k1 : c0 < 256) (f1 : bits .and .u8 xz 7 = sz) (hz0 : 0 ≤ sz) (hz1 : sz ≤ 7) (x0 : 0 ≤ xz) (x1 : xz ≤ 255) (lo hi : Int) (t2 : w.cell? ⟨2, (xz / 16).toNat * 2, none⟩ = some (.int .u8 lo)) (t3 : w.cell? ⟨2, (xz / 16).toNat * 2 + 1, none⟩ = some (.int .u8 hi)) (h1 : 1 < s.size) (b1 : Int) (hc1 : ((s[1]'h1).toNat : Int) = b1) (n1 : (s.size : Int) > 1) (l1 : b1 < lo) :
    Calls Tryz.prog 119 #[.string s] w fun e w' => e = .returned (.bool true) ∧ Below w.heap.size w w' := by
  have i1 : (0 : Int) < (s.size : Int) := by omega
  have hB : ∀ o, Below w.heap.size w (w.alloc o) := fun o => (Below.refl _ _).alloc (Nat.le_refl _) _
  go_enter Tryz.func119, Tryz.ntmps119
  go_wp2_with fail
  go_quiet (fail)
  go_wp2_with fail
  go_ret
  exact ⟨rfl, below_drewN (hB _) _⟩
set_option maxHeartbeats 1000000 in
theorem full_c (s : ByteArray) (k : Nat) (xz sz : Int) (n0 : ¬ (s.size : Int) ≥ sz) (h0 : 0 < s.size) (c0 : Int) (hc0 : ((s[0]'h0).toNat : Int) = c0) (hck : c0 = (k : Int)) (w : World) (t1 : w.cell? ⟨1, k, none⟩ = some (.int .u8 xz)) (k1 : c0 < 256) (f1 : bits .and .u8 xz 7 = sz) (hz0 : 0 ≤ sz) (hz1 : sz ≤ 7) (x0 : 0 ≤ xz) (x1 : xz ≤ 255) (lo hi : Int) (t2 : w.cell? ⟨2, (xz / 16).toNat * 2, none⟩ = some (.int .u8 lo)) (t3 : w.cell? ⟨2, (xz / 16).toNat * 2 + 1, none⟩ = some (.int .u8 hi)) (h1 : 1 < s.size) (b1 : Int) (hc1 : ((s[1]'h1).toNat : Int) = b1) (n1 : (s.size : Int) > 1) (l1 : decide (b1 < lo) = false) (g1 : hi < b1) :
    Calls Tryz.prog 119 #[.string s] w fun e w' => e = .returned (.bool true) ∧ Below w.heap.size w w' := by
  have i1 : (0 : Int) < (s.size : Int) := by omega
  have hB : ∀ o, Below w.heap.size w (w.alloc o) := fun o => (Below.refl _ _).alloc (Nat.le_refl _) _
  go_enter Tryz.func119, Tryz.ntmps119
  go_wp2_with fail
  go_quiet (fail)
  go_wp2_with fail
  go_ret
  exact ⟨rfl, below_drewN (hB _) _⟩
set_option maxHeartbeats 1000000 in
theorem full_d (s : ByteArray) (k : Nat) (xz sz : Int) (n0 : ¬ (s.size : Int) ≥ sz) (h0 : 0 < s.size) (c0 : Int) (hc0 : ((s[0]'h0).toNat : Int) = c0) (hck : c0 = (k : Int)) (w : World) (t1 : w.cell? ⟨1, k, none⟩ = some (.int .u8 xz)) (k1 : c0 < 256) (f1 : bits .and .u8 xz 7 = sz) (hz0 : 0 ≤ sz) (hz1 : sz ≤ 7) (x0 : 0 ≤ xz) (x1 : xz ≤ 255) (lo hi : Int) (t2 : w.cell? ⟨2, (xz / 16).toNat * 2, none⟩ = some (.int .u8 lo)) (t3 : w.cell? ⟨2, (xz / 16).toNat * 2 + 1, none⟩ = some (.int .u8 hi)) (h1 : 1 < s.size) (b1 : Int) (hc1 : ((s[1]'h1).toNat : Int) = b1) (n1 : (s.size : Int) > 1) (l1 : decide (b1 < lo) = false) (g1 : decide (hi < b1) = false) (n2 : decide ((s.size : Int) > 2) = false) :
    Calls Tryz.prog 119 #[.string s] w fun e w' => e = .returned (.bool false) ∧ Below w.heap.size w w' := by
  have i1 : (0 : Int) < (s.size : Int) := by omega
  have hB : ∀ o, Below w.heap.size w (w.alloc o) := fun o => (Below.refl _ _).alloc (Nat.le_refl _) _
  go_enter Tryz.func119, Tryz.ntmps119
  go_wp2_with fail
  go_quiet (fail)
  go_wp2_with fail
  go_ret
  exact ⟨rfl, below_drewN (hB _) _⟩
set_option maxHeartbeats 1000000 in
theorem full_e (s : ByteArray) (k : Nat) (xz sz : Int) (n0 : ¬ (s.size : Int) ≥ sz) (h0 : 0 < s.size) (c0 : Int) (hc0 : ((s[0]'h0).toNat : Int) = c0) (hck : c0 = (k : Int)) (w : World) (t1 : w.cell? ⟨1, k, none⟩ = some (.int .u8 xz)) (k1 : c0 < 256) (f1 : bits .and .u8 xz 7 = sz) (hz0 : 0 ≤ sz) (hz1 : sz ≤ 7) (x0 : 0 ≤ xz) (x1 : xz ≤ 255) (lo hi : Int) (t2 : w.cell? ⟨2, (xz / 16).toNat * 2, none⟩ = some (.int .u8 lo)) (t3 : w.cell? ⟨2, (xz / 16).toNat * 2 + 1, none⟩ = some (.int .u8 hi)) (h1 : 1 < s.size) (b1 : Int) (hc1 : ((s[1]'h1).toNat : Int) = b1) (h2 : 2 < s.size) (b2 : Int) (hc2 : ((s[2]'h2).toNat : Int) = b2) (n1 : (s.size : Int) > 1) (l1 : decide (b1 < lo) = false) (g1 : decide (hi < b1) = false) (n2 : (s.size : Int) > 2) (l2 : b2 < 128) :
    Calls Tryz.prog 119 #[.string s] w fun e w' => e = .returned (.bool true) ∧ Below w.heap.size w w' := by
  have i1 : (0 : Int) < (s.size : Int) := by omega
  have hB : ∀ o, Below w.heap.size w (w.alloc o) := fun o => (Below.refl _ _).alloc (Nat.le_refl _) _
  go_enter Tryz.func119, Tryz.ntmps119
  go_wp2_with fail
  go_quiet (fail)
  go_wp2_with fail
  go_ret
  exact ⟨rfl, below_drewN (hB _) _⟩
set_option maxHeartbeats 1000000 in
theorem full_f (s : ByteArray) (k : Nat) (xz sz : Int) (n0 : ¬ (s.size : Int) ≥ sz) (h0 : 0 < s.size) (c0 : Int) (hc0 : ((s[0]'h0).toNat : Int) = c0) (hck : c0 = (k : Int)) (w : World) (t1 : w.cell? ⟨1, k, none⟩ = some (.int .u8 xz)) (k1 : c0 < 256) (f1 : bits .and .u8 xz 7 = sz) (hz0 : 0 ≤ sz) (hz1 : sz ≤ 7) (x0 : 0 ≤ xz) (x1 : xz ≤ 255) (lo hi : Int) (t2 : w.cell? ⟨2, (xz / 16).toNat * 2, none⟩ = some (.int .u8 lo)) (t3 : w.cell? ⟨2, (xz / 16).toNat * 2 + 1, none⟩ = some (.int .u8 hi)) (h1 : 1 < s.size) (b1 : Int) (hc1 : ((s[1]'h1).toNat : Int) = b1) (h2 : 2 < s.size) (b2 : Int) (hc2 : ((s[2]'h2).toNat : Int) = b2) (n1 : (s.size : Int) > 1) (l1 : decide (b1 < lo) = false) (g1 : decide (hi < b1) = false) (n2 : (s.size : Int) > 2) (l2 : decide (b2 < 128) = false) (g2 : 191 < b2) :
    Calls Tryz.prog 119 #[.string s] w fun e w' => e = .returned (.bool true) ∧ Below w.heap.size w w' := by
  have i1 : (0 : Int) < (s.size : Int) := by omega
  have hB : ∀ o, Below w.heap.size w (w.alloc o) := fun o => (Below.refl _ _).alloc (Nat.le_refl _) _
  go_enter Tryz.func119, Tryz.ntmps119
  go_wp2_with fail
  go_quiet (fail)
  go_wp2_with fail
  go_ret
  exact ⟨rfl, below_drewN (hB _) _⟩
set_option maxHeartbeats 1000000 in
theorem full_g (s : ByteArray) (k : Nat) (xz sz : Int) (n0 : ¬ (s.size : Int) ≥ sz) (h0 : 0 < s.size) (c0 : Int) (hc0 : ((s[0]'h0).toNat : Int) = c0) (hck : c0 = (k : Int)) (w : World) (t1 : w.cell? ⟨1, k, none⟩ = some (.int .u8 xz)) (k1 : c0 < 256) (f1 : bits .and .u8 xz 7 = sz) (hz0 : 0 ≤ sz) (hz1 : sz ≤ 7) (x0 : 0 ≤ xz) (x1 : xz ≤ 255) (lo hi : Int) (t2 : w.cell? ⟨2, (xz / 16).toNat * 2, none⟩ = some (.int .u8 lo)) (t3 : w.cell? ⟨2, (xz / 16).toNat * 2 + 1, none⟩ = some (.int .u8 hi)) (h1 : 1 < s.size) (b1 : Int) (hc1 : ((s[1]'h1).toNat : Int) = b1) (h2 : 2 < s.size) (b2 : Int) (hc2 : ((s[2]'h2).toNat : Int) = b2) (n1 : (s.size : Int) > 1) (l1 : decide (b1 < lo) = false) (g1 : decide (hi < b1) = false) (n2 : (s.size : Int) > 2) (l2 : decide (b2 < 128) = false) (g2 : decide (191 < b2) = false) :
    Calls Tryz.prog 119 #[.string s] w fun e w' => e = .returned (.bool false) ∧ Below w.heap.size w w' := by
  have i1 : (0 : Int) < (s.size : Int) := by omega
  have hB : ∀ o, Below w.heap.size w (w.alloc o) := fun o => (Below.refl _ _).alloc (Nat.le_refl _) _
  go_enter Tryz.func119, Tryz.ntmps119
  go_wp2_with fail
  go_quiet (fail)
  go_wp2_with fail
  go_ret
  exact ⟨rfl, below_drewN (hB _) _⟩

/-- Whether a text begins with a whole character, or with what is none. -/
def fullN (n b0 b1 b2 : Nat) : Bool :=
  if Lib.firstT b0 % 8 ≤ n then true
  else if 1 < n ∧ (b1 < Lib.accLo (Lib.firstT b0 / 16) ∨ Lib.accHi (Lib.firstT b0 / 16) < b1) then true
  else if 2 < n ∧ (b2 < 128 ∨ 191 < b2) then true else false
theorem firstT_cases (c : Nat) : Lib.firstT c = 240 ∨ Lib.firstT c = 241 ∨ Lib.firstT c = 2 ∨ Lib.firstT c = 19 ∨ Lib.firstT c = 3 ∨ Lib.firstT c = 35 ∨ Lib.firstT c = 52 ∨ Lib.firstT c = 4 ∨ Lib.firstT c = 68 := by
  unfold Lib.firstT
  repeat' split
  all_goals simp
theorem first_and (c : Nat) : bits .and .u8 ((Lib.firstT c : Nat) : Int) 7 = ((Lib.firstT c % 8 : Nat) : Int) := by
  rcases firstT_cases c with h | h | h | h | h | h | h | h | h <;> rw [h] <;> decide
theorem first_le (c : Nat) : Lib.firstT c ≤ 241 := by
  rcases firstT_cases c with h | h | h | h | h | h | h | h | h <;> omega
theorem full_any (s : ByteArray) (h0 : 0 < s.size) (w : World) (hU : Lib.Utf8Tabs 1 2 w) :
    Calls Tryz.prog 119 #[.string s] w fun e w' => e = .returned (.bool (fullN s.size (byteAt s 0).toNat (byteAt s 1).toNat (byteAt s 2).toNat)) ∧ Below w.heap.size w w' := by
  have hk := UInt8.toNat_lt (byteAt s 0)
  have hc0 : ((s[0]'h0).toNat : Int) = ((byteAt s 0).toNat : Int) := by rw [byteAt_eq h0]
  have t1 := hU.1 (byteAt s 0).toNat hk
  have f1 := first_and (byteAt s 0).toNat
  have hx := first_le (byteAt s 0).toNat
  obtain ⟨t2, t3⟩ := hU.2 (Lib.firstT (byteAt s 0).toNat / 16) (by omega)
  have ei : ((Lib.firstT (byteAt s 0).toNat : Int) / 16).toNat * 2 = 2 * (Lib.firstT (byteAt s 0).toNat / 16) := by omega
  rw [← ei] at t2 t3
  clear ei
  have hr : ∀ r : Bool, fullN s.size (byteAt s 0).toNat (byteAt s 1).toNat (byteAt s 2).toNat = r → (Calls Tryz.prog 119 #[.string s] w fun e w' => e = .returned (.bool r) ∧ Below w.heap.size w w') → Calls Tryz.prog 119 #[.string s] w fun e w' => e = .returned (.bool (fullN s.size (byteAt s 0).toNat (byteAt s 1).toNat (byteAt s 2).toNat)) ∧ Below w.heap.size w w' := fun r h1 h2 => by rw [h1]; exact h2
  by_cases n0 : Lib.firstT (byteAt s 0).toNat % 8 ≤ s.size
  · exact hr true (by unfold fullN; rw [if_pos n0]) (full_ge s _ _ _ (by omega) h0 _ hc0 rfl w t1 (by omega) f1 (by omega) (by omega))
  · by_cases n1 : 1 < s.size
    · have hc1 : ((s[1]'n1).toNat : Int) = ((byteAt s 1).toNat : Int) := by rw [byteAt_eq n1]
      by_cases l1 : (byteAt s 1).toNat < Lib.accLo (Lib.firstT (byteAt s 0).toNat / 16)
      · exact hr true (by unfold fullN; rw [if_neg n0, if_pos ⟨n1, Or.inl l1⟩]) (full_b s _ _ _ (by omega) h0 _ hc0 rfl w t1 (by omega) f1 (by omega) (by omega) (by omega) (by omega) _ _ t2 t3 n1 _ hc1 (by omega) (by omega))
      · by_cases g1 : Lib.accHi (Lib.firstT (byteAt s 0).toNat / 16) < (byteAt s 1).toNat
        · exact hr true (by unfold fullN; rw [if_neg n0, if_pos ⟨n1, Or.inr g1⟩]) (full_c s _ _ _ (by omega) h0 _ hc0 rfl w t1 (by omega) f1 (by omega) (by omega) (by omega) (by omega) _ _ t2 t3 n1 _ hc1 (by omega) (by simp; omega) (by omega))
        · have c1 : ¬ (1 < s.size ∧ ((byteAt s 1).toNat < Lib.accLo (Lib.firstT (byteAt s 0).toNat / 16) ∨ Lib.accHi (Lib.firstT (byteAt s 0).toNat / 16) < (byteAt s 1).toNat)) := by omega
          by_cases n2 : 2 < s.size
          · have hc2 : ((s[2]'n2).toNat : Int) = ((byteAt s 2).toNat : Int) := by rw [byteAt_eq n2]
            by_cases l2 : (byteAt s 2).toNat < 128
            · exact hr true (by unfold fullN; rw [if_neg n0, if_neg c1, if_pos ⟨n2, Or.inl l2⟩]) (full_e s _ _ _ (by omega) h0 _ hc0 rfl w t1 (by omega) f1 (by omega) (by omega) (by omega) (by omega) _ _ t2 t3 n1 _ hc1 n2 _ hc2 (by omega) (by simp; omega) (by simp; omega) (by omega) (by omega))
            · by_cases g2 : 191 < (byteAt s 2).toNat
              · exact hr true (by unfold fullN; rw [if_neg n0, if_neg c1, if_pos ⟨n2, Or.inr g2⟩]) (full_f s _ _ _ (by omega) h0 _ hc0 rfl w t1 (by omega) f1 (by omega) (by omega) (by omega) (by omega) _ _ t2 t3 n1 _ hc1 n2 _ hc2 (by omega) (by simp; omega) (by simp; omega) (by omega) (by simp; omega) (by omega))
              · exact hr false (by unfold fullN; rw [if_neg n0, if_neg c1, if_neg (by omega)]) (full_g s _ _ _ (by omega) h0 _ hc0 rfl w t1 (by omega) f1 (by omega) (by omega) (by omega) (by omega) _ _ t2 t3 n1 _ hc1 n2 _ hc2 (by omega) (by simp; omega) (by simp; omega) (by omega) (by simp; omega) (by simp; omega))
          · exact hr false (by unfold fullN; rw [if_neg n0, if_neg c1, if_neg (by omega)]) (full_d s _ _ _ (by omega) h0 _ hc0 rfl w t1 (by omega) f1 (by omega) (by omega) (by omega) (by omega) _ _ t2 t3 n1 _ hc1 (by omega) (by simp; omega) (by simp; omega) (by simp; omega))
    · exact hr false (by unfold fullN; rw [if_neg n0, if_neg (by omega), if_neg (by omega)]) (full_a s _ _ _ (by omega) h0 _ hc0 rfl w t1 (by omega) f1 (by omega) (by omega) (by omega) (by omega) _ _ t2 t3 (by simp; omega) (by simp; omega))
end Go.Proofs.YtnccaidlcaeeaaaGreatDoor
namespace Go.Proofs.YtnccaidlcaeeaaaGreatDoor
open Go Go.RowKit Go.Maps
def fullT (T : ByteArray) (n : Nat) : Bool := fullN (T.size - n) (byteAt T n).toNat (byteAt T (n + 1)).toNat (byteAt T (n + 2)).toNat
theorem tail_byte (T : ByteArray) (n j : Nat) : byteAt (T.extract n T.size) j = byteAt T (n + j) := by
  have h1 : ∀ (S : ByteArray) (i : Nat), byteAt S i = S.get! i := fun S i => by
    rw [← Lib.getD_get!']
    unfold byteAt
    simp [Array.getD_eq_getD_getElem?, List.getD_eq_getElem?_getD]
  rw [h1, h1]
  exact Lib.tail_get! T n j
theorem full_tail (T : ByteArray) (n : Nat) : fullN (T.extract n T.size).size (byteAt (T.extract n T.size) 0).toNat (byteAt (T.extract n T.size) 1).toNat (byteAt (T.extract n T.size) 2).toNat = fullT T n := by
  rw [tail_byte, tail_byte, tail_byte, Lib.tail_size]; rfl
theorem decode_tail (T : ByteArray) (n : Nat) (h : n < T.size) : Lib.decodeGo (T.extract n T.size) = Utf8.decode T n := by
  unfold Lib.decodeGo
  rw [if_neg (by rw [Lib.tail_size]; omega), Lib.tail_decode]; rfl
set_option maxHeartbeats 1000000 in
theorem character_ok (b n : Nat) (T : ByteArray) (w : World) (hA : At b T n w) (hU : Lib.Utf8Tabs 1 2 w) (h8 : 8 ≤ w.heap.size) (hn : n < T.size) (hf : fullT T n = true) (hd : (Utf8.decode T n).2 ≠ 1) :
    Calls Tryz.prog 103 #[.pointer (some ⟨b, 0, none⟩)] w fun e w' => e = .returned (.tuple #[]) ∧ Below w.heap.size w w' := by
  have x0 := hA.c0
  have x1 := hA.c1
  have hbl := hA.lt
  have i1 : (0 : Int) ≤ (n : Int) := by omega
  have i2 : (n : Int) ≤ (T.size : Int) := by omega
  have hsz : 0 < (T.extract n T.size).size := by rw [Lib.tail_size]; omega
  have HF : Hid (∀ w', Lib.Utf8Tabs 1 2 w' → Calls Tryz.prog 119 #[.string (T.extract n T.size)] w' fun e w'' => e = .returned (.bool true) ∧ Below w'.heap.size w' w'') := fun w' hU' => by
    have := full_any (T.extract n T.size) hsz w' hU'
    rw [full_tail, hf] at this
    exact this
  have HD : Hid (∀ w', Lib.Utf8Tabs 1 2 w' → Calls Tryz.prog 120 #[.string (T.extract n T.size)] w' fun e w'' => e = .returned (.tuple #[.int .i32 ((Utf8.decode T n).1 : Int), .int .i64 ((Utf8.decode T n).2 : Int)]) ∧ Below w'.heap.size w' w'') := fun w' hU' => by
    have := Tryz.utf8_DecodeRuneInString (T.extract n T.size) w' hU'
    rw [decode_tail T n hn] at this
    exact this
  have g1 : (((Utf8.decode T n).2 : Int) == 1) = false := by simp; omega
  clear hsz hf hd
  go_enter Tryz.func103, Tryz.ntmps103
  go_wp2_with fail
  go_quiet (fail)
  go_wp2_with fail
  refine (HF.out (w.drewN nq) (utf_keep hU (fun _ _ => rfl))).mono ?_
  rintro e w1 ⟨rfl, hb1⟩
  have hb1' : Below w.heap.size w w1 := (below_drewN (Below.refl _ _) nq).trans hb1
  have hA1 : At b T n w1 := (hb1'.block b hbl).trans hA
  have z0 := hA1.c0
  have z1 := hA1.c1
  have hU1 : Lib.Utf8Tabs 1 2 w1 := utf_keep hU (fun k hk => hb1'.block k (by omega))
  clear hb1 x0 x1
  go_wp2_with fail
  refine (HD.out w1 hU1).mono ?_
  rintro e w2 ⟨rfl, hb2⟩
  have hb2' : Below w.heap.size w w2 := hb1'.trans (hb2.mono hb1'.size)
  have hA2 : At b T n w2 := (hb2'.block b hbl).trans hA
  have y0 := hA2.c0
  have y1 := hA2.c1
  clear hb2 z0 z1
  generalize ((Utf8.decode T n).2 : Int) = dz at *
  generalize ((Utf8.decode T n).1 : Int) = dc at *
  go_wp2_with fail
  go_end0
  exact ⟨rfl, hb2'⟩
set_option maxHeartbeats 1000000 in
theorem character_bad (b n : Nat) (T : ByteArray) (w : World) (hA : At b T n w) (hU : Lib.Utf8Tabs 1 2 w) (h8 : 8 ≤ w.heap.size) (hn : n < T.size) (hf : fullT T n = true) (hd : (Utf8.decode T n).2 = 1) :
    Calls Tryz.prog 103 #[.pointer (some ⟨b, 0, none⟩)] w fun e w' => e = .panicked (faultC 13 n) ∧ Below w.heap.size w w' := by
  have x0 := hA.c0
  have x1 := hA.c1
  have hbl := hA.lt
  have i1 : (0 : Int) ≤ (n : Int) := by omega
  have i2 : (n : Int) ≤ (T.size : Int) := by omega
  have hsz : 0 < (T.extract n T.size).size := by rw [Lib.tail_size]; omega
  have HF : Hid (∀ w', Lib.Utf8Tabs 1 2 w' → Calls Tryz.prog 119 #[.string (T.extract n T.size)] w' fun e w'' => e = .returned (.bool true) ∧ Below w'.heap.size w' w'') := fun w' hU' => by
    have := full_any (T.extract n T.size) hsz w' hU'
    rw [full_tail, hf] at this
    exact this
  have HD : Hid (∀ w', Lib.Utf8Tabs 1 2 w' → Calls Tryz.prog 120 #[.string (T.extract n T.size)] w' fun e w'' => e = .returned (.tuple #[.int .i32 ((Utf8.decode T n).1 : Int), .int .i64 ((Utf8.decode T n).2 : Int)]) ∧ Below w'.heap.size w' w'') := fun w' hU' => by
    have := Tryz.utf8_DecodeRuneInString (T.extract n T.size) w' hU'
    rw [decode_tail T n hn] at this
    exact this
  have g1 : (((Utf8.decode T n).2 : Int) == 1) = true := by rw [hd]; rfl
  clear hsz hf hd
  go_enter Tryz.func103, Tryz.ntmps103
  go_wp2_with fail
  go_quiet (fail)
  go_wp2_with fail
  refine (HF.out (w.drewN nq) (utf_keep hU (fun _ _ => rfl))).mono ?_
  rintro e w1 ⟨rfl, hb1⟩
  have hb1' : Below w.heap.size w w1 := (below_drewN (Below.refl _ _) nq).trans hb1
  have hA1 : At b T n w1 := (hb1'.block b hbl).trans hA
  have z0 := hA1.c0
  have z1 := hA1.c1
  have hU1 : Lib.Utf8Tabs 1 2 w1 := utf_keep hU (fun k hk => hb1'.block k (by omega))
  clear hb1 x0 x1
  go_wp2_with fail
  refine (HD.out w1 hU1).mono ?_
  rintro e w2 ⟨rfl, hb2⟩
  have hb2' : Below w.heap.size w w2 := hb1'.trans (hb2.mono hb1'.size)
  have hA2 : At b T n w2 := (hb2'.block b hbl).trans hA
  have y0 := hA2.c0
  have y1 := hA2.c1
  clear hb2 z0 z1
  generalize ((Utf8.decode T n).2 : Int) = dz at *
  generalize ((Utf8.decode T n).1 : Int) = dc at *
  go_wp2_with fail
  exact ⟨rfl, rfl, hb2'⟩
set_option maxHeartbeats 1000000 in
theorem character_short (b n : Nat) (T : ByteArray) (w : World) (hA : At b T n w) (hU : Lib.Utf8Tabs 1 2 w) (h8 : 8 ≤ w.heap.size) (hn : n < T.size) (hf : fullT T n = false) :
    Calls Tryz.prog 103 #[.pointer (some ⟨b, 0, none⟩)] w fun e w' => e = .panicked (faultC 3 T.size) ∧ Below w.heap.size w w' := by
  have x0 := hA.c0
  have x1 := hA.c1
  have hbl := hA.lt
  have i1 : (0 : Int) ≤ (n : Int) := by omega
  have i2 : (n : Int) ≤ (T.size : Int) := by omega
  have hsz : 0 < (T.extract n T.size).size := by rw [Lib.tail_size]; omega
  have HF : Hid (∀ w', Lib.Utf8Tabs 1 2 w' → Calls Tryz.prog 119 #[.string (T.extract n T.size)] w' fun e w'' => e = .returned (.bool false) ∧ Below w'.heap.size w' w'') := fun w' hU' => by
    have := full_any (T.extract n T.size) hsz w' hU'
    rw [full_tail, hf] at this
    exact this
  clear hsz hf
  go_enter Tryz.func103, Tryz.ntmps103
  go_wp2_with fail
  go_quiet (fail)
  go_wp2_with fail
  refine (HF.out (w.drewN nq) (utf_keep hU (fun _ _ => rfl))).mono ?_
  rintro e w1 ⟨rfl, hb1⟩
  have hb1' : Below w.heap.size w w1 := (below_drewN (Below.refl _ _) nq).trans hb1
  have hA1 : At b T n w1 := (hb1'.block b hbl).trans hA
  have z0 := hA1.c0
  have z1 := hA1.c1
  have hU1 : Lib.Utf8Tabs 1 2 w1 := utf_keep hU (fun k hk => hb1'.block k (by omega))
  clear hb1 x0 x1
  go_wp2_with fail
  exact ⟨rfl, rfl, hb1'⟩
end Go.Proofs.YtnccaidlcaeeaaaGreatDoor
namespace Go.Proofs.YtnccaidlcaeeaaaGreatDoor
open Go Go.RowKit Go.Maps

theorem byte_get (S : ByteArray) (i : Nat) : byteAt S i = S.get! i := by
  rw [← Lib.getD_get!']
  unfold byteAt
  simp [Array.getD_eq_getD_getElem?, List.getD_eq_getElem?_getD]
theorem dec_N (T : ByteArray) (n : Nat) : Utf8.decode T n = Lib.decodeN (T.size - n) (byteAt T n).toNat (byteAt T (n + 1)).toNat (byteAt T (n + 2)).toNat (byteAt T (n + 3)).toNat := by
  rw [Lib.decode_at, byte_get, byte_get, byte_get, byte_get]
theorem dec_small (T : ByteArray) (n : Nat) (h : (Utf8.decode T n).1 < 128) : (Utf8.decode T n).1 = (byteAt T n).toNat ∧ (Utf8.decode T n).2 = 1 := by
  rw [dec_N] at h ⊢
  unfold Lib.decodeN at h ⊢
  repeat' split at h
  all_goals first | (simp only at h; omega) | simp_all
theorem dec_asc (T : ByteArray) (n : Nat) (h : (byteAt T n).toNat < 128) : Utf8.decode T n = ((byteAt T n).toNat, 1) := by
  rw [dec_N]
  unfold Lib.decodeN
  rw [if_pos h]
theorem dec_wide (T : ByteArray) (n : Nat) (h : n < T.size) : 1 ≤ (Utf8.decode T n).2 ∧ n + (Utf8.decode T n).2 ≤ T.size := by
  rw [dec_N]
  unfold Lib.decodeN
  repeat' split
  all_goals (simp only; omega)

/-- From n on up to what ends it, or is no character. -/
def plTo (T : ByteArray) : Nat → Nat → Res Unit
  | 0, _ => .bad 3 T.size
  | f + 1, n =>
    if n < T.size then
      if (Utf8.decode T n).1 = 34 ∨ (Utf8.decode T n).1 = 92 then .ok () n
      else if (Utf8.decode T n).1 < 32 then .bad 11 n
      else if (Utf8.decode T n).1 = 65533 then (if fullT T n = true then (if (Utf8.decode T n).2 = 1 then .bad 13 n else plTo T f (n + (Utf8.decode T n).2)) else .bad 3 T.size)
      else plTo T f (n + (Utf8.decode T n).2)
    else .bad 3 T.size
theorem plTo_more (T : ByteArray) : ∀ f g n, T.size - n ≤ f → T.size - n ≤ g → plTo T f n = plTo T g n
  | 0, 0, _, _, _ => rfl
  | 0, g + 1, n, hf, _ => by rw [plTo, plTo, if_neg (by omega)]
  | f + 1, 0, n, _, hg => by rw [plTo, plTo, if_neg (by omega)]
  | f + 1, g + 1, n, hf, hg => by
    rw [plTo, plTo]
    by_cases h : n < T.size
    · have := dec_wide T n h
      rw [plTo_more T f g (n + (Utf8.decode T n).2) (by omega) (by omega)]
    · rw [if_neg h, if_neg h]
def plR (T : ByteArray) (n : Nat) : Res Unit := plTo T (T.size - n) n
theorem plR_step (T : ByteArray) (n : Nat) (h : n < T.size) : plR T n =
      if (Utf8.decode T n).1 = 34 ∨ (Utf8.decode T n).1 = 92 then .ok () n
      else if (Utf8.decode T n).1 < 32 then .bad 11 n
      else if (Utf8.decode T n).1 = 65533 then (if fullT T n = true then (if (Utf8.decode T n).2 = 1 then .bad 13 n else plR T (n + (Utf8.decode T n).2)) else .bad 3 T.size)
      else plR T (n + (Utf8.decode T n).2) := by
  have hw := dec_wide T n h
  have e : plTo T (T.size - n - 1) (n + (Utf8.decode T n).2) = plR T (n + (Utf8.decode T n).2) := plTo_more T _ _ _ (by omega) (Nat.le_refl _)
  rw [← e]
  unfold plR
  obtain ⟨f, hf⟩ : ∃ f, T.size - n = f + 1 := ⟨T.size - n - 1, by omega⟩
  rw [hf, plTo, if_pos h]
  rfl
theorem plR_end (T : ByteArray) (n : Nat) (h : ¬ n < T.size) : plR T n = .bad 3 T.size := by
  unfold plR; rw [show T.size - n = 0 by omega, plTo]
def GPost (b : Nat) (T : ByteArray) (n : Nat) (w : World) (e : Ending) (w' : World) : Res Unit → Prop
  | .ok _ m => e = .returned (.string (T.extract n m)) ∧ At b T m w' ∧ Kp b w w' ∧ n ≤ m ∧ m < T.size ∧ (byteAt T m = 34 ∨ byteAt T m = 92)
  | .bad er p => e = .panicked (faultC er p) ∧ Kp b w w'
theorem nat_of_u8 {c : UInt8} {k : Nat} (h : c.toNat = k) (hk : k < 256) : c = UInt8.ofNat k := by
  subst h; simp

set_option maxHeartbeats 2000000 in
theorem plain_g (b n : Nat) (T : ByteArray) (w : World) (hA : At b T n w) (hE : Env w) (hb8 : 8 ≤ b) (hn : n ≤ T.size) (hT : T.size ≤ 65536) :
    Calls Tryz.prog 85 #[.pointer (some ⟨b, 0, none⟩)] w fun e w' => GPost b T n w e w' (plR T n) := by
  have h0 := hA.c0
  have h1 := hA.c1
  have hbl := hA.lt
  have i1 : (0 : Int) ≤ (n : Int) := by omega
  have i2 : (n : Int) ≤ (T.size : Int) := by omega
  have HSS : Hid ((T.extract n T.size).size = T.size - n) := Lib.tail_size T n
  have HU : Hid (∀ w', Kp b w w' → Lib.Utf8Tabs 1 2 w') := fun w' hK => utf_keep hE.utf (fun k hk => hK.block k (by omega) (by omega))
  clear hE
  go_enter Tryz.func85, Tryz.ntmps85
  go_wp2
  clear h0 h1
  go_loopw [] (fun wr => ∃ pos q : Nat, pos ≤ T.size - n ∧ At b T q wr ∧ Kp b w wr ∧ wr.heap[w.heap.size]? = some (.stringIter (T.extract n T.size) pos) ∧ Hid (plR T n = plR T (n + pos))) (fun wr => T.size - wr.iterPos w.heap.size)
  case atStart =>
    refine ⟨0, n, Nat.zero_le _, hA.alloc _, (Kp.refl _ _).alloc _, ?_, rfl⟩
    exact heap_alloc_new w _
  case round =>
    obtain ⟨pos, q, hpos, hAq, hK, hit, HB⟩ := hrel
    have hne : b ≠ w.heap.size := by omega
    by_cases hp : n + pos < T.size
    · have hps : pos < (T.extract n T.size).size := by rw [HSS.out]; omega
      have hwd := dec_wide T (n + pos) hp
      have HST := hid' (plR_step T (n + pos) hp)
      have HSM := hid' (dec_small T (n + pos))
      have hnx : ∀ ty, (Instr.next (.pointer (some ⟨w.heap.size, 0, none⟩)) true ty).run Tryz.prog wr = .ok (.tuple #[.bool true, .int .i64 pos, .int .i32 ((Utf8.decode T (n + pos)).1 : Int)]) (wr.iterAt w.heap.size (T.extract n T.size) (pos + (Utf8.decode T (n + pos)).2)) := fun ty => by
        rw [Lib.run_next_any_at wr w.heap.size _ pos ty hit hps, Lib.tail_decode]
      have HCO := hid' (fun (wq : World) (hAq : At b T (n + pos) wq) (hKq : Kp b w wq) (hf : fullT T (n + pos) = true) (hd : (Utf8.decode T (n + pos)).2 ≠ 1) => character_ok b (n + pos) T wq hAq (HU.out wq hKq) (by have := hKq.size; omega) hp hf hd)
      have HCB := hid' (fun (wq : World) (hAq : At b T (n + pos) wq) (hKq : Kp b w wq) (hf : fullT T (n + pos) = true) (hd : (Utf8.decode T (n + pos)).2 = 1) => character_bad b (n + pos) T wq hAq (HU.out wq hKq) (by have := hKq.size; omega) hp hf hd)
      have HCS := hid' (fun (wq : World) (hAq : At b T (n + pos) wq) (hKq : Kp b w wq) (hf : fullT T (n + pos) = false) => character_short b (n + pos) T wq hAq (HU.out wq hKq) (by have := hKq.size; omega) hp hf)
      generalize (Utf8.decode T (n + pos)).1 = dc at *
      generalize (Utf8.decode T (n + pos)).2 = dk at *
      have hA2 : At b T q (wr.iterAt w.heap.size (T.extract n T.size) (pos + dk)) := at_iter hAq hne _ _
      have hK2 : Kp b w (wr.iterAt w.heap.size (T.extract n T.size) (pos + dk)) := kp_iter hK (Nat.le_refl _) _ _
      have HIT : Hid (wr.iterPos w.heap.size = pos) := by simp [Hid, World.iterPos, hit]
      have HIT2 : Hid ((wr.iterAt w.heap.size (T.extract n T.size) (pos + dk)).heap[w.heap.size]? = some (.stringIter (T.extract n T.size) (pos + dk))) := Lib.iterAt_heap wr w.heap.size _ pos (pos + dk) hit
      clear hit
      generalize wr.iterAt w.heap.size (T.extract n T.size) (pos + dk) = wx at *
      obtain ⟨cz, HCZ⟩ : ∃ z : Int, Hid ((dc : Int) = z) := ⟨_, rfl⟩
      rw [HCZ.out] at hnx
      have x0 := hA2.c0
      have x1 := hA2.c1
      have xf := hA2.fz 1
      have j1 : (n : Int) + (pos : Int) ≤ 65536 := by omega
      have j2 : (n : Int) + (pos : Int) ≤ (T.size : Int) := by omega
      have j3 : (n : Int) ≤ (n : Int) + (pos : Int) := by omega
      have j4 : (0 : Int) ≤ (n : Int) + (pos : Int) := by omega
      have hA3 : At b T (n + pos) (wx.setCell ⟨b, 1, none⟩ (.int .i64 ((n : Int) + (pos : Int)))) := hA2.set _ (n + pos) (by omega)
      have hK3 : Kp b w (wx.setCell ⟨b, 1, none⟩ (.int .i64 ((n : Int) + (pos : Int)))) := hK2.setCell _ _
      by_cases cq : dc = 34 ∨ dc = 92
      · have HR : Hid (plR T n = .ok () (n + pos)) := by unfold Hid; rw [HB.out, HST.out, if_pos cq]
        have HC : Hid (byteAt T (n + pos) = 34 ∨ byteAt T (n + pos) = 92) := by
          have h := (HSM.out (by omega)).1
          rcases cq with e | e
          · exact Or.inl (nat_of_u8 (h.symm.trans e) (by decide))
          · exact Or.inr (nat_of_u8 (h.symm.trans e) (by decide))
        have e34 : ((cz == 34) = true) ∨ ((cz == 34) = false ∧ (cz == 92) = true) := by
          have := HCZ.out
          rcases cq with e | e
          · exact Or.inl (by simp; omega)
          · exact Or.inr ⟨by simp; omega, by simp; omega⟩
        clear cq HST HSM HCO HCB HCS
        rcases e34 with e34 | ⟨e34, e92⟩
        all_goals
          go_wp2
          go_quiet (fail)
          go_wp2
          go_ret
          rw [HR.out]
          exact ⟨rfl, hA3.drewN _, hK3.drewN _, by omega, hp, HC.out⟩
      · have e34 : (cz == 34) = false := by have := HCZ.out; simp; omega
        have e92 : (cz == 92) = false := by have := HCZ.out; simp; omega
        by_cases c32 : dc < 32
        · have HR : Hid (plR T n = .bad 11 (n + pos)) := by unfold Hid; rw [HB.out, HST.out, if_neg cq, if_pos c32]
          have l32 : cz < 32 := by have := HCZ.out; omega
          clear cq HST HSM HCO HCB HCS c32
          go_wp2
          refine ⟨rfl, ?_⟩
          rw [HR.out]
          exact ⟨rfl, hK3⟩
        · have l32 : ¬ cz < 32 := by have := HCZ.out; omega
          by_cases c65 : dc = 65533
          · have l65 : (cz == 65533) = true := by have := HCZ.out; simp; omega
            have HS2 : Hid (plR T (n + pos) = (if fullT T (n + pos) = true then (if dk = 1 then .bad 13 (n + pos) else plR T (n + pos + dk)) else .bad 3 T.size)) := by unfold Hid; rw [HST.out, if_neg cq, if_neg c32, if_pos c65]
            clear cq HST HSM c32 c65
            cases hf : fullT T (n + pos) with
            | false =>
              have HR : Hid (plR T n = .bad 3 T.size) := by unfold Hid; rw [HB.out, HS2.out, hf, if_neg (by decide)]
              have HC := hid' (HCS.out _ hA3 hK3 hf)
              clear hf HCO HCB HCS HS2
              go_wp2_with fail
              refine HC.out.mono ?_
              rintro e w3 ⟨rfl, hb3⟩
              have hK4 : Kp b w w3 := hK3.trans (Kp.below hb3)
              clear hb3 HC
              go_wp2_with fail
              refine ⟨rfl, ?_⟩
              rw [HR.out]
              exact ⟨rfl, hK4⟩
            | true =>
              by_cases hd : dk = 1
              · have HR : Hid (plR T n = .bad 13 (n + pos)) := by unfold Hid; rw [HB.out, HS2.out, hf, if_pos rfl, if_pos hd]
                have HC := hid' (HCB.out _ hA3 hK3 hf hd)
                clear hf hd HCO HCB HCS HS2
                go_wp2_with fail
                refine HC.out.mono ?_
                rintro e w3 ⟨rfl, hb3⟩
                have hK4 : Kp b w w3 := hK3.trans (Kp.below hb3)
                clear hb3 HC
                go_wp2_with fail
                refine ⟨rfl, ?_⟩
                rw [HR.out]
                exact ⟨rfl, hK4⟩
              · have HR : Hid (plR T n = plR T (n + (pos + dk))) := by unfold Hid; rw [HB.out, HS2.out, hf, if_pos rfl, if_neg hd, Nat.add_assoc]
                have HC := hid' (HCO.out _ hA3 hK3 hf hd)
                clear hf hd HCO HCB HCS HS2
                go_wp2_with fail
                refine HC.out.mono ?_
                rintro e w3 ⟨rfl, hb3⟩
                have hK4 : Kp b w w3 := hK3.trans (Kp.below hb3)
                have hsx : w.heap.size < (wx.setCell ⟨b, 1, none⟩ (.int .i64 ((n : Int) + (pos : Int)))).heap.size := by rw [Kp.sz_set]; exact (Array.getElem?_eq_some_iff.1 HIT2.out).1
                have hA4 : At b T (n + pos) w3 := (hb3.block b (by omega)).trans hA3
                have HIT3 : Hid (w3.heap[w.heap.size]? = some (.stringIter (T.extract n T.size) (pos + dk))) := by
                  unfold Hid
                  rw [hb3.block w.heap.size hsx, Below.heap_setCell _ _ _ _ (Ne.symm hne)]; exact HIT2.out
                clear hb3 HC
                go_wp2_with fail
                go_roundw
                case rel => exact ⟨pos + dk, n + pos, by omega, hA4, hK4, HIT3.out, HR⟩
                case measure =>
                  have h3 : w3.iterPos w.heap.size = pos + dk := by unfold World.iterPos; rw [HIT3.out]
                  rw [h3, HIT.out]
                  omega
          · have l65 : (cz == 65533) = false := by have := HCZ.out; simp; omega
            have HR : Hid (plR T n = plR T (n + (pos + dk))) := by unfold Hid; rw [HB.out, HST.out, if_neg cq, if_neg c32, if_neg c65, Nat.add_assoc]
            clear cq HST HSM HCO HCB HCS c32 c65
            go_wp2
            go_roundw
            case rel =>
              refine ⟨pos + dk, n + pos, by omega, hA3, hK3, ?_, HR⟩
              rw [Below.heap_setCell _ _ _ _ (Ne.symm hne)]; exact HIT2.out
            case measure =>
              have h3 : (wx.setCell ⟨b, 1, none⟩ (.int .i64 ((n : Int) + (pos : Int)))).iterPos w.heap.size = pos + dk := by
                unfold World.iterPos
                rw [Below.heap_setCell _ _ _ _ (Ne.symm hne), HIT2.out]
              rw [h3, HIT.out]
              omega
    · have hpe : n + pos = T.size := by omega
      have hnx : ∀ ty, (Instr.next (.pointer (some ⟨w.heap.size, 0, none⟩)) true ty).run Tryz.prog wr = .ok (.tuple #[.bool false]) wr := fun ty => Lib.run_next_end_at wr w.heap.size _ pos ty hit (by rw [HSS.out]; omega)
      have HR : Hid (plR T n = .bad 3 T.size) := by unfold Hid; rw [HB.out, plR_end T _ hp]
      have x0 := hAq.c0
      clear hpe hit
      go_wp2
      refine ⟨rfl, ?_⟩
      rw [HR.out]
      exact ⟨rfl, hK⟩
end Go.Proofs.YtnccaidlcaeeaaaGreatDoor
namespace Go.Proofs.YtnccaidlcaeeaaaGreatDoor
open Go Go.RowKit Go.Maps

theorem hexR_ok (T : ByteArray) : ∀ k x n v m, n ≤ T.size → hexR T k x n = .ok v m → m = n + k ∧ m ≤ T.size ∧ v < 16 ^ k * (x + 1)
  | 0, x, n, v, m, hn, h => by
    rw [hexR] at h; cases h; simp; omega
  | k + 1, x, n, v, m, hn, h => by
    rw [hexR] at h
    split at h
    · split at h
      · next d hd =>
        have hl := hexV_lt hd
        obtain ⟨h1, h2, h3⟩ := hexR_ok T k _ _ _ _ (by omega) h
        refine ⟨by omega, h2, ?_⟩
        have : 16 ^ k * (16 * x + d + 1) ≤ 16 ^ k * (16 * (x + 1)) := Nat.mul_le_mul_left _ (by omega)
        rw [Nat.pow_succ, Nat.mul_assoc]
        omega
      · cases h
    · cases h
theorem codedR_ok {T : ByteArray} {st n c m : Nat} (hn : n ≤ T.size) (h : codedR T st n = .ok c m) : n + 4 ≤ m ∧ m ≤ T.size ∧ c ≤ 1114111 := by
  unfold codedR at h
  cases hh : hexR T 4 0 n with
  | bad e p => rw [hh] at h; cases h
  | ok v m1 =>
    rw [hh, halfR] at h
    obtain ⟨h1, h2, h3⟩ := hexR_ok T 4 0 n v m1 hn hh
    have hv : v < 65536 := by simpa using h3
    split at h
    · cases h; omega
    · split at h
      · cases h
      · unfold pairR at h
        split at h
        · split at h
          · split at h
            · split at h
              · cases hl : hexR T 4 0 (m1 + 2) with
                | bad e p => rw [hl] at h; cases h
                | ok l m2 =>
                  rw [hl, lowR] at h
                  obtain ⟨g1, g2, g3⟩ := hexR_ok T 4 0 (m1 + 2) l m2 (by omega) hl
                  have hl' : l < 65536 := by simpa using g3
                  by_cases hc : l < 56320 ∨ 57344 ≤ l
                  · rw [if_pos hc] at h; cases h
                  · rw [if_neg hc] at h
                    simp only [Res.ok.injEq] at h
                    obtain ⟨h4, h5⟩ := h
                    have h6 : pairV v l ≤ 1114111 := by unfold pairV; omega
                    omega
              · cases h
            · cases h
          · cases h
        · cases h
theorem escR_ok {T : ByteArray} {n c m : Nat} (h : escR T n = .ok c m) : n + 2 ≤ m ∧ m ≤ T.size ∧ c ≤ 1114111 ∧ (c < 128 ∨ n + 6 ≤ m) := by
  unfold escR at h
  split at h
  · split at h
    · obtain ⟨h1, h2, h3⟩ := codedR_ok (by omega) h
      omega
    · cases hu : unescN (byteAt T (n + 1)).toNat with
      | none => rw [hu] at h; cases h
      | some d =>
        rw [hu] at h; cases h
        have := unescN_lt hu
        omega
  · cases h
theorem plTo_ok (T : ByteArray) : ∀ f n m, plTo T f n = .ok () m → n ≤ m ∧ m < T.size ∧ (byteAt T m = 34 ∨ byteAt T m = 92)
  | 0, n, m, h => by rw [plTo] at h; cases h
  | f + 1, n, m, h => by
    rw [plTo] at h
    split at h
    · split at h
      · next hq =>
        cases h
        refine ⟨Nat.le_refl _, by assumption, ?_⟩
        have hs := (dec_small T n (by omega)).1
        rcases hq with e | e
        · exact Or.inl (nat_of_u8 (hs.symm.trans e) (by decide))
        · exact Or.inr (nat_of_u8 (hs.symm.trans e) (by decide))
      · split at h
        · cases h
        · have key : plTo T f (n + (Utf8.decode T n).2) = .ok () m → n ≤ m ∧ m < T.size ∧ (byteAt T m = 34 ∨ byteAt T m = 92) := fun h => by
            have := plTo_ok T f _ m h; exact ⟨by omega, this.2⟩
          split at h
          · split at h
            · split at h
              · cases h
              · exact key h
            · cases h
          · exact key h
    · cases h
theorem plR_ok {T : ByteArray} {n m : Nat} (h : plR T n = .ok () m) : n ≤ m ∧ m < T.size ∧ (byteAt T m = 34 ∨ byteAt T m = 92) := plTo_ok T _ n m h

def bytesOf (T : ByteArray) (n m : Nat) : List UInt8 := (T.extract n m).data.toList
def encB (c : Nat) : List UInt8 := Lib.encodeRune (c : Int)
def txTo (T : ByteArray) : Nat → List UInt8 → Nat → Res ByteArray
  | 0, _, _ => .bad 3 T.size
  | f + 1, acc, n =>
    match plR T n with
    | .bad e p => .bad e p
    | .ok _ m =>
      if byteAt T m = 34 then .ok ⟨(acc ++ bytesOf T n m).toArray⟩ (m + 1)
      else match escR T m with
        | .bad e p => .bad e p
        | .ok c m' => txTo T f (acc ++ bytesOf T n m ++ encB c) m'
theorem txTo_more (T : ByteArray) : ∀ f g acc n, T.size + 1 - n ≤ f → T.size + 1 - n ≤ g → n ≤ T.size → txTo T f acc n = txTo T g acc n
  | 0, g, acc, n, hf, hg, hn => by omega
  | f + 1, 0, acc, n, hf, hg, hn => by omega
  | f + 1, g + 1, acc, n, hf, hg, hn => by
    rw [txTo, txTo]
    cases hp : plR T n with
    | bad e p => rfl
    | ok u m =>
      have h1 := plR_ok hp
      simp only
      split
      · rfl
      · cases he : escR T m with
        | bad e p => rfl
        | ok c m' =>
          have h2 := escR_ok he
          simp only
          exact txTo_more T f g _ m' (by omega) (by omega) (by omega)
def txR (T : ByteArray) (acc : List UInt8) (n : Nat) : Res ByteArray := txTo T (T.size + 1 - n) acc n
def textR (T : ByteArray) (n : Nat) : Res ByteArray := txR T [] (n + 1)
theorem txR_step (T : ByteArray) (acc : List UInt8) (n : Nat) (hn : n ≤ T.size) : txR T acc n =
    match plR T n with
    | .bad e p => .bad e p
    | .ok _ m =>
      if byteAt T m = 34 then .ok ⟨(acc ++ bytesOf T n m).toArray⟩ (m + 1)
      else match escR T m with
        | .bad e p => .bad e p
        | .ok c m' => txR T (acc ++ bytesOf T n m ++ encB c) m' := by
  unfold txR
  obtain ⟨f, hf⟩ : ∃ f, T.size + 1 - n = f + 1 := ⟨T.size - n, by omega⟩
  rw [hf, txTo]
  cases hp : plR T n with
  | bad e p => rfl
  | ok u m =>
    have h1 := plR_ok hp
    simp only
    split
    · rfl
    · cases he : escR T m with
      | bad e p => rfl
      | ok c m' =>
        have h2 := escR_ok he
        simp only
        exact txTo_more T _ _ _ m' (by omega) (by omega) (by omega)
end Go.Proofs.YtnccaidlcaeeaaaGreatDoor
