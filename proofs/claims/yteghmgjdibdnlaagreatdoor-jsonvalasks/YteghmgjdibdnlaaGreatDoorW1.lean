import Derived.Test.YteghmgjdibdnlaaGreatDoorS1
namespace Go.Proofs.YteghmgjdibdnlaaGreatDoor
open Go Go.RowKit

theorem u8_beq (c : UInt8) (k : UInt8) : ((c.toNat : Int) == (k.toNat : Int)) = (c == k) := by
  rw [Bool.eq_iff_iff, beq_iff_eq, beq_iff_eq]
  constructor
  · intro h; exact UInt8.toNat_inj.1 (by omega)
  · intro h; rw [h]
theorem ret_bool {a b : Bool} (h : a = b) : Ending.returned (.bool a) = .returned (.bool b) := by rw [h]
theorem ret_int {k : IntKind} {a b : Int} (h : a = b) : Ending.returned (.int k a) = .returned (.int k b) := by rw [h]
theorem blank_int (c : UInt8) : blank c = ((c.toNat : Int) == 32 || (c.toNat : Int) == 9 || (c.toNat : Int) == 10 || (c.toNat : Int) == 13) := by
  unfold blank; rw [← u8_beq c 32, ← u8_beq c 9, ← u8_beq c 10, ← u8_beq c 13]; rfl
theorem frac_int (c : UInt8) : frac c = ((c.toNat : Int) == 46 || (c.toNat : Int) == 101 || (c.toNat : Int) == 69) := by
  unfold frac; rw [← u8_beq c 46, ← u8_beq c 101, ← u8_beq c 69]; rfl
theorem digit_int (c : UInt8) : digit c = (decide (48 ≤ (c.toNat : Int)) && decide ((c.toNat : Int) ≤ 57)) := by
  unfold digit
  rw [Bool.eq_iff_iff]; simp [UInt8.le_iff_toNat_le]; omega

theorem isBlank_any (c : UInt8) (w : World) : Calls Tryz.prog 66 #[.int .u8 (c.toNat : Int)] w fun e w' => e = .returned (.bool (blank c)) ∧ w' = w := by
  go_enter Tryz.func66, Tryz.ntmps66
  go_wp2
  all_goals (go_ret; exact ⟨ret_bool (by rw [blank_int]; try simp [*]), rfl⟩)
theorem isFrac_any (c : UInt8) (w : World) : Calls Tryz.prog 86 #[.int .u8 (c.toNat : Int)] w fun e w' => e = .returned (.bool (frac c)) ∧ w' = w := by
  go_enter Tryz.func86, Tryz.ntmps86
  go_wp2
  all_goals (go_ret; exact ⟨ret_bool (by rw [frac_int]; try simp [*]), rfl⟩)
theorem isDigit_any (c : UInt8) (w : World) : Calls Tryz.prog 69 #[.int .u8 (c.toNat : Int)] w fun e w' => e = .returned (.bool (digit c)) ∧ w' = w := by
  go_enter Tryz.func69, Tryz.ntmps69
  go_wp2
  all_goals (go_ret; exact ⟨ret_bool (by rw [digit_int]; first | done | (simp; omega)), rfl⟩)

theorem here_ok (b n : Nat) (T : ByteArray) (w : World) (h0 : w.cell? ⟨b, 0, none⟩ = some (.string T)) (h1 : w.cell? ⟨b, 1, none⟩ = some (.int .i64 (n : Int))) (hn : n < T.size) :
    Calls Tryz.prog 67 #[.pointer (some ⟨b, 0, none⟩)] w fun e w' => e = .returned (.int .u8 ((byteAt T n).toNat : Int)) ∧ w' = w.drew.drew := by
  have hne : ((n : Int) == (T.size : Int)) = false := by simp; omega
  go_enter Tryz.func67, Tryz.ntmps67
  go_wp2
  go_region
  go_wp2
  go_region
  go_wp2
  go_ret
  exact ⟨ret_int (by rw [byteAt_eq hn]), rfl⟩
theorem here_short (b : Nat) (T : ByteArray) (w : World) (h0 : w.cell? ⟨b, 0, none⟩ = some (.string T)) (h1 : w.cell? ⟨b, 1, none⟩ = some (.int .i64 (T.size : Int))) :
    Calls Tryz.prog 67 #[.pointer (some ⟨b, 0, none⟩)] w fun e w' => e = .panicked (faultC 3 T.size) ∧ w' = w.drew := by
  go_enter Tryz.func67, Tryz.ntmps67
  go_wp2
  go_region
  go_wp2
  exact ⟨rfl, rfl, rfl⟩
theorem pass_ok (b n : Nat) (T : ByteArray) (c : UInt8) (w : World) (h0 : w.cell? ⟨b, 0, none⟩ = some (.string T)) (h1 : w.cell? ⟨b, 1, none⟩ = some (.int .i64 (n : Int))) (hf : w.frozen? ⟨b, 1, none⟩ = false)
    (hn : n < T.size) (hT : T.size ≤ 65536) (hc : byteAt T n = c) :
    Calls Tryz.prog 83 #[.pointer (some ⟨b, 0, none⟩), .int .u8 (c.toNat : Int)] w fun e w' => e = .returned (.tuple #[]) ∧ w' = (w.setCell ⟨b, 1, none⟩ (.int .i64 ((n : Int) + 1))).drew.drew := by
  subst hc
  go_enter Tryz.func83, Tryz.ntmps83
  go_wp2_with (go_at_call 67; refine (here_ok b n T _ h0 h1 hn).mono ?_; rintro e w' ⟨rfl, rfl⟩)
  go_end0
  exact ⟨rfl, rfl⟩
theorem pass_bad (b n : Nat) (T : ByteArray) (c : UInt8) (w : World) (h0 : w.cell? ⟨b, 0, none⟩ = some (.string T)) (h1 : w.cell? ⟨b, 1, none⟩ = some (.int .i64 (n : Int)))
    (hn : n < T.size) (hc : byteAt T n ≠ c) :
    Calls Tryz.prog 83 #[.pointer (some ⟨b, 0, none⟩), .int .u8 (c.toNat : Int)] w fun e w' => e = .panicked (faultC 10 n) ∧ w' = w.drew.drew := by
  have hne : (((byteAt T n).toNat : Int) == (c.toNat : Int)) = false := by rw [u8_beq]; simpa using hc
  have hne' : (((byteAt T n).toNat : Int) != (c.toNat : Int)) = true := by simp [bne, hne]
  clear hc
  go_enter Tryz.func83, Tryz.ntmps83
  go_wp2_with (go_at_call 67; refine (here_ok b n T _ h0 h1 hn).mono ?_; rintro e w' ⟨rfl, rfl⟩)
  exact ⟨rfl, rfl, rfl⟩
theorem pass_short (b : Nat) (T : ByteArray) (c : UInt8) (w : World) (h0 : w.cell? ⟨b, 0, none⟩ = some (.string T)) (h1 : w.cell? ⟨b, 1, none⟩ = some (.int .i64 (T.size : Int))) :
    Calls Tryz.prog 83 #[.pointer (some ⟨b, 0, none⟩), .int .u8 (c.toNat : Int)] w fun e w' => e = .panicked (faultC 3 T.size) ∧ w' = w.drew := by
  go_enter Tryz.func83, Tryz.ntmps83
  go_wp2_with (go_at_call 67; refine (here_short b T _ h0 h1).mono ?_; rintro e w' ⟨rfl, rfl⟩)
  exact ⟨rfl, rfl, rfl⟩
end Go.Proofs.YteghmgjdibdnlaaGreatDoor
