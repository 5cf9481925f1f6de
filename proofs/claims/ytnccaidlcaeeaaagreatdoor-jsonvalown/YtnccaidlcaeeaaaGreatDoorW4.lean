import Derived.Test.YtnccaidlcaeeaaaGreatDoorProg
import Derived.WalkKit
import Derived.WalkLawsBesides
import Derived.Outline
import Derived.Below
import Derived.Deep.QuietTactic
import Derived.BigQuiet
/-! The reader in memory, and what a step of it keeps. -/
namespace Go.Proofs.YtnccaidlcaeeaaaGreatDoor
open Go Go.RowKit

/-- The byte at a place of a text. -/
def byteAt (T : ByteArray) (n : Nat) : UInt8 := T.data.getD n 0
theorem byteAt_eq {T : ByteArray} {n : Nat} (h : n < T.size) : T[n] = byteAt T n := by
  have h' : n < T.data.size := h
  unfold byteAt
  rw [Array.getD_eq_getD_getElem?, Array.getElem?_eq_getElem h']
  rfl
def blank (c : UInt8) : Bool := c == 32 || c == 9 || c == 10 || c == 13
def digit (c : UInt8) : Bool := 48 ≤ c && c ≤ 57
def frac (c : UInt8) : Bool := c == 46 || c == 101 || c == 69

/-- The reader at block b: its text and its place. -/
def At (b : Nat) (T : ByteArray) (n : Nat) (w : World) : Prop := w.heap[b]? = some (.cells #[.string T, .int .i64 (n : Int)] 52 (0, 0))
/-- All that was there is as it was, but for block b. -/
structure Kp (b : Nat) (w w' : World) : Prop where
  os : w'.os = w.os
  tape : w'.tape = w.tape
  output : w'.output = w.output
  size : w.heap.size ≤ w'.heap.size
  block : ∀ k, k < w.heap.size → k ≠ b → w'.heap[k]? = w.heap[k]?

theorem Kp.refl (b : Nat) (w : World) : Kp b w w := ⟨rfl, rfl, rfl, Nat.le_refl _, fun _ _ _ => rfl⟩
theorem Kp.trans {b : Nat} {x y z : World} (h : Kp b x y) (k : Kp b y z) : Kp b x z :=
  ⟨k.os.trans h.os, k.tape.trans h.tape, k.output.trans h.output, Nat.le_trans h.size k.size,
    fun i hi hb => (k.block i (Nat.lt_of_lt_of_le hi h.size) hb).trans (h.block i hi hb)⟩
theorem Kp.drew {b : Nat} {x w : World} (h : Kp b x w) : Kp b x w.drew := ⟨h.os, h.tape, h.output, h.size, h.block⟩
theorem Kp.drewN {b : Nat} {x w : World} (h : Kp b x w) (n : Nat) : Kp b x (w.drewN n) := ⟨h.os, h.tape, h.output, h.size, h.block⟩
theorem Kp.alloc {b : Nat} {x w : World} (h : Kp b x w) (o : Obj) : Kp b x (w.alloc o) :=
  h.trans ⟨rfl, rfl, rfl, by simp, fun k hk _ => Below.heap_alloc _ _ _ hk⟩
theorem Kp.setCell {b : Nat} {x w : World} (h : Kp b x w) (o : Nat) (u : Value) : Kp b x (w.setCell ⟨b, o, none⟩ u) :=
  h.trans ⟨rfl, rfl, rfl, by simp [World.setCell], fun k _ hb => Below.heap_setCell _ _ _ _ hb⟩
theorem Kp.setNew {b : Nat} {x w : World} (h : Kp b x w) {p : Addr} (hp : x.heap.size ≤ p.block) (u : Value) : Kp b x (w.setCell p u) :=
  ⟨h.os, h.tape, h.output, by simpa [World.setCell] using h.size, fun k hk hb => (Below.heap_setCell _ _ _ _ (by omega)).trans (h.block k hk hb)⟩
theorem Kp.sz_set (w : World) (p : Addr) (u : Value) : (w.setCell p u).heap.size = w.heap.size := by simp [World.setCell]
theorem Kp.below {b : Nat} {w w' : World} (h : Below w.heap.size w w') : Kp b w w' := ⟨h.os, h.tape, h.output, h.size, fun k hk _ => h.block k hk⟩
/-- Seen from a world in which block b was not yet there. -/
theorem Kp.above {b B : Nat} {x w w' : World} (h : Kp b w w') (hx : Below B x w) (hB : B ≤ w.heap.size) (hb : B ≤ b) : Below B x w' :=
  hx.trans ⟨h.os, h.tape, h.output, h.size, fun k hk => h.block k (by omega) (by omega)⟩

theorem At.lt {b n : Nat} {T : ByteArray} {w : World} (h : At b T n w) : b < w.heap.size := by
  unfold At at h
  exact (Array.getElem?_eq_some_iff.1 h).1
theorem At.c0 {b n : Nat} {T : ByteArray} {w : World} (h : At b T n w) : w.cell? ⟨b, 0, none⟩ = some (.string T) := by
  unfold At at h; simp [World.cell?, h]
theorem At.c1 {b n : Nat} {T : ByteArray} {w : World} (h : At b T n w) : w.cell? ⟨b, 1, none⟩ = some (.int .i64 (n : Int)) := by
  unfold At at h; simp [World.cell?, h]
theorem At.fz {b n : Nat} {T : ByteArray} {w : World} (h : At b T n w) (o : Nat) : w.frozen? ⟨b, o, none⟩ = false := by
  unfold At at h; simp [World.frozen?, h]
theorem At.drew {b n : Nat} {T : ByteArray} {w : World} (h : At b T n w) : At b T n w.drew := h
theorem At.drewN {b n : Nat} {T : ByteArray} {w : World} (h : At b T n w) (k : Nat) : At b T n (w.drewN k) := h
theorem At.set {b n : Nat} {T : ByteArray} {w : World} (h : At b T n w) (m : Int) (m' : Nat) (e : m = m') : At b T m' (w.setCell ⟨b, 1, none⟩ (.int .i64 m)) := by
  subst e
  unfold At at *
  simp [World.setCell, Array.getElem?_modify, h]
theorem At.setOther {b n : Nat} {T : ByteArray} {w : World} (h : At b T n w) {p : Addr} (hp : b ≠ p.block) (u : Value) : At b T n (w.setCell p u) := by
  unfold At at *; rw [Below.heap_setCell _ _ _ _ hp, h]
theorem At.kept {b n : Nat} {T : ByteArray} {w w' : World} (h : At b T n w) (hb : Below w.heap.size w w') : At b T n w' := by
  unfold At at *; rw [hb.block b (At.lt h), h]
theorem At.alloc {b n : Nat} {T : ByteArray} {w : World} (h : At b T n w) (o : Obj) : At b T n (w.alloc o) := by
  unfold At at *; rw [Below.heap_alloc _ _ _ (At.lt h), h]

/-- What a reader panics with. -/
def faultV (e : Int) (p : Int) : Value := .iface 54 (.agg #[.int .i64 e, .int .i64 p])
def faultC (e : Int) (p : Int) : List PanicEntry := [{ v := faultV e p, recovered := false }]
end Go.Proofs.YtnccaidlcaeeaaaGreatDoor
namespace Go.Proofs.YtnccaidlcaeeaaaGreatDoor
open Go Go.RowKit

theorem u8_beq (c : UInt8) (k : UInt8) : ((c.toNat : Int) == (k.toNat : Int)) = (c == k) := by
  rw [Bool.eq_iff_iff, beq_iff_eq, beq_iff_eq]
  constructor
  · intro h; exact UInt8.toNat_inj.1 (by omega)
  · intro h; rw [h]
theorem ret_bool {a b : Bool} (h : a = b) : Ending.returned (.bool a) = .returned (.bool b) := by rw [h]
theorem ret_int {k : IntKind} {a b : Int} (h : a = b) : Ending.returned (.int k a) = .returned (.int k b) := by rw [h]
theorem blank_int (c : UInt8) : blank c = ((c.toNat : Int) == 32 || (c.toNat : Int) == 9 || (c.toNat : Int) == 10 || (c.toNat : Int) == 13) := by
  unfold blank; rw [← u8_beq c 32, ← u8_beq c 9, ← u8_beq c 10, ← u8_beq c 13]; rfl
theorem frac_int (c : UInt8) : frac c = ((c.toNat : Int) == 46 || (c.toNat : Int) == 101 || (c.toNat : Int) == 69) := by
  unfold frac; rw [← u8_beq c 46, ← u8_beq c 101, ← u8_beq c 69]; rfl
theorem digit_int (c : UInt8) : digit c = (decide (48 ≤ (c.toNat : Int)) && decide ((c.toNat : Int) ≤ 57)) := by
  unfold digit
  rw [Bool.eq_iff_iff]; simp [UInt8.le_iff_toNat_le]; omega

theorem isBlank_any (c : UInt8) (w : World) : Calls Tryz.prog 59 #[.int .u8 (c.toNat : Int)] w fun e w' => e = .returned (.bool (blank c)) ∧ w' = w := by
  go_enter Tryz.func59, Tryz.ntmps59
  go_wp2
  all_goals (go_ret; exact ⟨ret_bool (by rw [blank_int]; try simp [*]), rfl⟩)
theorem isFrac_any (c : UInt8) (w : World) : Calls Tryz.prog 84 #[.int .u8 (c.toNat : Int)] w fun e w' => e = .returned (.bool (frac c)) ∧ w' = w := by
  go_enter Tryz.func84, Tryz.ntmps84
  go_wp2
  all_goals (go_ret; exact ⟨ret_bool (by rw [frac_int]; try simp [*]), rfl⟩)
theorem isDigit_any (c : UInt8) (w : World) : Calls Tryz.prog 62 #[.int .u8 (c.toNat : Int)] w fun e w' => e = .returned (.bool (digit c)) ∧ w' = w := by
  go_enter Tryz.func62, Tryz.ntmps62
  go_wp2
  all_goals (go_ret; exact ⟨ret_bool (by rw [digit_int]; first | done | (simp; omega)), rfl⟩)

theorem here_ok (b n : Nat) (T : ByteArray) (w : World) (h0 : w.cell? ⟨b, 0, none⟩ = some (.string T)) (h1 : w.cell? ⟨b, 1, none⟩ = some (.int .i64 (n : Int))) (hn : n < T.size) :
    Calls Tryz.prog 60 #[.pointer (some ⟨b, 0, none⟩)] w fun e w' => e = .returned (.int .u8 ((byteAt T n).toNat : Int)) ∧ w' = w.drew.drew := by
  have hne : ((n : Int) == (T.size : Int)) = false := by simp; omega
  go_enter Tryz.func60, Tryz.ntmps60
  go_wp2
  go_region
  go_wp2
  go_region
  go_wp2
  go_ret
  exact ⟨ret_int (by rw [byteAt_eq hn]), rfl⟩
theorem here_short (b : Nat) (T : ByteArray) (w : World) (h0 : w.cell? ⟨b, 0, none⟩ = some (.string T)) (h1 : w.cell? ⟨b, 1, none⟩ = some (.int .i64 (T.size : Int))) :
    Calls Tryz.prog 60 #[.pointer (some ⟨b, 0, none⟩)] w fun e w' => e = .panicked (faultC 3 T.size) ∧ w' = w.drew := by
  go_enter Tryz.func60, Tryz.ntmps60
  go_wp2
  go_region
  go_wp2
  exact ⟨rfl, rfl, rfl⟩
theorem pass_ok (b n : Nat) (T : ByteArray) (c : UInt8) (w : World) (h0 : w.cell? ⟨b, 0, none⟩ = some (.string T)) (h1 : w.cell? ⟨b, 1, none⟩ = some (.int .i64 (n : Int))) (hf : w.frozen? ⟨b, 1, none⟩ = false)
    (hn : n < T.size) (hT : T.size ≤ 65536) (hc : byteAt T n = c) :
    Calls Tryz.prog 81 #[.pointer (some ⟨b, 0, none⟩), .int .u8 (c.toNat : Int)] w fun e w' => e = .returned (.tuple #[]) ∧ w' = (w.setCell ⟨b, 1, none⟩ (.int .i64 ((n : Int) + 1))).drew.drew := by
  subst hc
  go_enter Tryz.func81, Tryz.ntmps81
  go_wp2_with (go_at_call 60; refine (here_ok b n T _ h0 h1 hn).mono ?_; rintro e w' ⟨rfl, rfl⟩)
  go_end0
  exact ⟨rfl, rfl⟩
theorem pass_bad (b n : Nat) (T : ByteArray) (c : UInt8) (w : World) (h0 : w.cell? ⟨b, 0, none⟩ = some (.string T)) (h1 : w.cell? ⟨b, 1, none⟩ = some (.int .i64 (n : Int)))
    (hn : n < T.size) (hc : byteAt T n ≠ c) :
    Calls Tryz.prog 81 #[.pointer (some ⟨b, 0, none⟩), .int .u8 (c.toNat : Int)] w fun e w' => e = .panicked (faultC 10 n) ∧ w' = w.drew.drew := by
  have hne : (((byteAt T n).toNat : Int) == (c.toNat : Int)) = false := by rw [u8_beq]; simpa using hc
  have hne' : (((byteAt T n).toNat : Int) != (c.toNat : Int)) = true := by simp [bne, hne]
  clear hc
  go_enter Tryz.func81, Tryz.ntmps81
  go_wp2_with (go_at_call 60; refine (here_ok b n T _ h0 h1 hn).mono ?_; rintro e w' ⟨rfl, rfl⟩)
  exact ⟨rfl, rfl, rfl⟩
theorem pass_short (b : Nat) (T : ByteArray) (c : UInt8) (w : World) (h0 : w.cell? ⟨b, 0, none⟩ = some (.string T)) (h1 : w.cell? ⟨b, 1, none⟩ = some (.int .i64 (T.size : Int))) :
    Calls Tryz.prog 81 #[.pointer (some ⟨b, 0, none⟩), .int .u8 (c.toNat : Int)] w fun e w' => e = .panicked (faultC 3 T.size) ∧ w' = w.drew := by
  go_enter Tryz.func81, Tryz.ntmps81
  go_wp2_with (go_at_call 60; refine (here_short b T _ h0 h1).mono ?_; rintro e w' ⟨rfl, rfl⟩)
  exact ⟨rfl, rfl, rfl⟩
end Go.Proofs.YtnccaidlcaeeaaaGreatDoor
namespace Go.Proofs.YtnccaidlcaeeaaaGreatDoor
open Go Go.RowKit

/-- Where the blanks end. -/
def skipTo (T : ByteArray) : Nat → Nat → Nat
  | 0, n => n
  | f + 1, n => if n < T.size ∧ blank (byteAt T n) = true then skipTo T f (n + 1) else n
def skip (T : ByteArray) (n : Nat) : Nat := skipTo T (T.size - n) n
theorem skipTo_eq (T : ByteArray) (f n k : Nat) (hf : k ≤ n + f) (hnk : n ≤ k) (hb : ∀ i, n ≤ i → i < k → i < T.size ∧ blank (byteAt T i) = true) (he : ¬ (k < T.size ∧ blank (byteAt T k) = true)) : skipTo T f n = k := by
  induction f generalizing n with
  | zero => simp [skipTo]; omega
  | succ f ih =>
    unfold skipTo
    by_cases h : n = k
    · subst h; rw [if_neg he]
    · rw [if_pos (hb n (Nat.le_refl _) (by omega))]
      exact ih (n + 1) (by omega) (by omega) (fun i h1 h2 => hb i (by omega) h2)
theorem skip_eq (T : ByteArray) (n k : Nat) (hnk : n ≤ k) (hk : k ≤ T.size) (hb : ∀ i, n ≤ i → i < k → blank (byteAt T i) = true) (he : k = T.size ∨ blank (byteAt T k) = false) : skip T n = k :=
  skipTo_eq T _ n k (by omega) hnk (fun i h1 h2 => ⟨by omega, hb i h1 h2⟩) (by rcases he with h | h <;> simp [h])

set_option maxHeartbeats 1000000 in
theorem blanks_any (b n : Nat) (T : ByteArray) (w : World) (hA : At b T n w) (hn : n ≤ T.size) (hT : T.size ≤ 65536) :
    Calls Tryz.prog 41 #[.pointer (some ⟨b, 0, none⟩)] w fun e w' => e = .returned (.tuple #[]) ∧ At b T (skip T n) w' ∧ Kp b w w' ∧ w'.heap.size = w.heap.size ∧ n ≤ skip T n ∧ skip T n ≤ T.size := by
  go_enter Tryz.func41, Tryz.ntmps41
  go_wp2
  go_loopw [] (fun wr => ∃ k : Nat, n ≤ k ∧ k ≤ T.size ∧ At b T k wr ∧ Kp b w wr ∧ wr.heap.size = w.heap.size ∧ Hid (∀ i, n ≤ i → i < k → blank (byteAt T i) = true)) (fun wr => T.size - (intOf ((wr.cell? ⟨b, 1, none⟩).getD (.int .i64 0))).toNat)
  case atStart => exact ⟨n, Nat.le_refl _, hn, hA, Kp.refl _ _, rfl, fun i h1 h2 => by omega⟩
  case round =>
    obtain ⟨k, hnk, hk, hAk, hK, hs, hB⟩ := hrel
    have h0 := hAk.c0
    have h1 := hAk.c1
    have hf := hAk.fz 1
    by_cases hlt : k < T.size
    · have hd : decide ((k : Int) < (T.size : Int)) = true := by simp; omega
      have he := byteAt_eq hlt
      by_cases hb : blank (byteAt T k) = true
      · go_wp2
        go_quiet ((go_at_call 59; exact Calls.quiet_of_same (isBlank_any _ _)))
        go_wp2
        go_roundw
        case rel =>
          exact ⟨k + 1, by omega, by omega, ((hAk.drewN _).set _ (k + 1) (by omega)), (hK.drewN _).setCell _ _, by simpa [World.setCell] using hs, fun i h1 h2 => by
            by_cases e : i = k
            · subst e; exact hb
            · exact hB.out i h1 (by omega)⟩
        case measure =>
          rw [((hAk.drewN nq).set _ (k + 1) (by omega)).c1, h1]
          simp [intOf]; omega
      · have hb' : blank (byteAt T k) = false := by simpa using hb
        clear hb
        go_wp2
        go_quiet ((go_at_call 59; exact Calls.quiet_of_same (isBlank_any _ _)))
        go_wp2
        have hs' := skip_eq T n k hnk hk hB.out (Or.inr hb')
        go_end0
        rw [hs']
        exact ⟨rfl, hAk.drewN _, hK.drewN _, hs, hnk, hk⟩
    · have hd : decide ((k : Int) < (T.size : Int)) = false := by simp; omega
      go_wp2
      go_quiet ((go_at_call 59; exact Calls.quiet_of_same (isBlank_any _ _)))
      go_wp2
      have hs' := skip_eq T n k hnk hk hB.out (Or.inl (by omega))
      go_end0
      rw [hs']
      exact ⟨rfl, hAk.drewN _, hK.drewN _, hs, hnk, hk⟩
end Go.Proofs.YtnccaidlcaeeaaaGreatDoor
namespace Go.Proofs.YtnccaidlcaeeaaaGreatDoor
open Go Go.RowKit

/-- Where the digits end. -/
def dgTo (T : ByteArray) : Nat → Nat → Nat
  | 0, n => n
  | f + 1, n => if n < T.size ∧ digit (byteAt T n) = true then dgTo T f (n + 1) else n
def dg (T : ByteArray) (n : Nat) : Nat := dgTo T (T.size - n) n
theorem dgTo_eq (T : ByteArray) (f n k : Nat) (hf : k ≤ n + f) (hnk : n ≤ k) (hb : ∀ i, n ≤ i → i < k → i < T.size ∧ digit (byteAt T i) = true) (he : ¬ (k < T.size ∧ digit (byteAt T k) = true)) : dgTo T f n = k := by
  induction f generalizing n with
  | zero => simp [dgTo]; omega
  | succ f ih =>
    unfold dgTo
    by_cases h : n = k
    · subst h; rw [if_neg he]
    · rw [if_pos (hb n (Nat.le_refl _) (by omega))]
      exact ih (n + 1) (by omega) (by omega) (fun i h1 h2 => hb i (by omega) h2)
theorem dg_eq (T : ByteArray) (n k : Nat) (hnk : n ≤ k) (hk : k ≤ T.size) (hb : ∀ i, n ≤ i → i < k → digit (byteAt T i) = true) (he : k = T.size ∨ digit (byteAt T k) = false) : dg T n = k :=
  dgTo_eq T _ n k (by omega) hnk (fun i h1 h2 => ⟨by omega, hb i h1 h2⟩) (by rcases he with h | h <;> simp [h])

/-- Where a number's digits end; they begin at n. -/
def numEnd (T : ByteArray) (n : Nat) : Nat := if byteAt T n = 48 then n + 1 else dg T (n + 1)

theorem digits_short (b : Nat) (T : ByteArray) (w : World) (hA : At b T T.size w) :
    Calls Tryz.prog 82 #[.pointer (some ⟨b, 0, none⟩)] w fun e w' => e = .panicked (faultC 3 T.size) ∧ w' = w.drew := by
  have h0 := hA.c0
  have h1 := hA.c1
  go_enter Tryz.func82, Tryz.ntmps82
  go_wp2_with (go_at_call 60; refine (here_short b T _ h0 h1).mono ?_; rintro e w' ⟨rfl, rfl⟩)
  exact ⟨rfl, rfl, rfl⟩
theorem digits_bad (b n : Nat) (T : ByteArray) (w : World) (hA : At b T n w) (hn : n < T.size) (hd : digit (byteAt T n) = false) :
    Calls Tryz.prog 82 #[.pointer (some ⟨b, 0, none⟩)] w fun e w' => e = .panicked (faultC 10 n) ∧ w' = w.drew.drew := by
  have h0 := hA.c0
  have h1 := hA.c1
  go_enter Tryz.func82, Tryz.ntmps82
  go_wp2_with (first | (go_at_call 60; refine (here_ok b n T _ h0 h1 hn).mono ?_; rintro e w' ⟨rfl, rfl⟩) | (go_at_call 62; refine (isDigit_any _ _).mono ?_; rintro e w' ⟨rfl, rfl⟩))
  exact ⟨rfl, rfl, rfl⟩

set_option maxHeartbeats 1000000 in
theorem digits_ok (b n : Nat) (T : ByteArray) (w : World) (hA : At b T n w) (hn : n < T.size) (hT : T.size ≤ 65536) (hd : digit (byteAt T n) = true) :
    Calls Tryz.prog 82 #[.pointer (some ⟨b, 0, none⟩)] w fun e w' => e = .returned (.tuple #[]) ∧ At b T (numEnd T n) w' ∧ Kp b w w' ∧ w'.heap.size = w.heap.size ∧ n < numEnd T n ∧ numEnd T n ≤ T.size := by
  have h0 := hA.c0
  have h1 := hA.c1
  have hf := hA.fz 1
  have hA1 : At b T (n + 1) (w.setCell ⟨b, 1, none⟩ (.int .i64 ((n : Int) + 1))) := hA.set _ (n + 1) (by omega)
  have hK1 : Kp b w (w.setCell ⟨b, 1, none⟩ (.int .i64 ((n : Int) + 1))) := (Kp.refl _ _).setCell _ _
  have hs1 : (w.setCell ⟨b, 1, none⟩ (.int .i64 ((n : Int) + 1))).heap.size = w.heap.size := by simp [World.setCell]
  go_enter Tryz.func82, Tryz.ntmps82
  go_wp2_with (first | (go_at_call 60; refine (here_ok b n T _ h0 h1 hn).mono ?_; rintro e w' ⟨rfl, rfl⟩) | (go_at_call 62; refine (isDigit_any _ _).mono ?_; rintro e w' ⟨rfl, rfl⟩))
  clear h0 h1 hf
  go_loopw [] (fun wr => ∃ k : Nat, n + 1 ≤ k ∧ k ≤ T.size ∧ At b T k wr ∧ Kp b w wr ∧ wr.heap.size = w.heap.size ∧ Hid (∀ i, n + 1 ≤ i → i < k → digit (byteAt T i) = true) ∧ Hid (byteAt T n = 48 → k = n + 1)) (fun wr => T.size - (intOf ((wr.cell? ⟨b, 1, none⟩).getD (.int .i64 0))).toNat)
  case atStart => exact ⟨n + 1, Nat.le_refl _, hn, hA1.drew.drew, hK1.drew.drew, hs1, fun i h1 h2 => by omega, fun _ => rfl⟩
  case round =>
    obtain ⟨k, hnk, hk, hAk, hK, hs, hB, hZ⟩ := hrel
    have h0 := hAk.c0
    have h1 := hAk.c1
    have hf := hAk.fz 1
    clear hA1 hK1 hs1
    by_cases hz : byteAt T n = 48
    · have hc : (((byteAt T n).toNat : Int) != 48) = false := by rw [hz]; rfl
      have HE : Hid (numEnd T n = k) := by unfold Hid numEnd; rw [if_pos hz, hZ.out hz]
      clear hz
      go_wp2
      go_quiet ((go_at_call 62; exact Calls.quiet_of_same (isDigit_any _ _)))
      go_wp2
      go_end0
      rw [HE.out]
      exact ⟨rfl, hAk.drewN _, hK.drewN _, hs, by omega, hk⟩
    · have hc : (((byteAt T n).toNat : Int) != 48) = true := by
        have := u8_beq (byteAt T n) 48
        have h48 : ((48 : UInt8).toNat : Int) = 48 := rfl
        rw [h48] at this
        simp only [bne, this]; simpa using hz
      have HN : Hid (numEnd T n = dg T (n + 1)) := by unfold Hid numEnd; rw [if_neg hz]
      clear hz hZ
      by_cases hlt : k < T.size
      · have hd1 : decide ((k : Int) < (T.size : Int)) = true := by simp; omega
        have he := byteAt_eq hlt
        by_cases hb : digit (byteAt T k) = true
        · go_wp2
          go_quiet ((go_at_call 62; exact Calls.quiet_of_same (isDigit_any _ _)))
          go_wp2
          go_roundw
          case rel =>
            exact ⟨k + 1, by omega, by omega, ((hAk.drewN _).set _ (k + 1) (by omega)), (hK.drewN _).setCell _ _, by simpa [World.setCell] using hs, fun i h1 h2 => by
              by_cases e : i = k
              · subst e; exact hb
              · exact hB.out i h1 (by omega), fun e => by rw [e] at hc; exact absurd hc (by decide)⟩
          case measure =>
            rw [((hAk.drewN nq).set _ (k + 1) (by omega)).c1, h1]
            simp [intOf]; omega
        · have hb' : digit (byteAt T k) = false := by simpa using hb
          clear hb
          go_wp2
          go_quiet ((go_at_call 62; exact Calls.quiet_of_same (isDigit_any _ _)))
          go_wp2
          have hs' := dg_eq T (n + 1) k hnk hk hB.out (Or.inr hb')
          go_end0
          rw [HN.out, hs']
          exact ⟨rfl, hAk.drewN _, hK.drewN _, hs, by omega, hk⟩
      · have hd1 : decide ((k : Int) < (T.size : Int)) = false := by simp; omega
        go_wp2
        go_quiet ((go_at_call 62; exact Calls.quiet_of_same (isDigit_any _ _)))
        go_wp2
        have hs' := dg_eq T (n + 1) k hnk hk hB.out (Or.inl (by omega))
        go_end0
        rw [HN.out, hs']
        exact ⟨rfl, hAk.drewN _, hK.drewN _, hs, by omega, hk⟩

/-- What a reading comes to: a thing and the place behind it, or a fault and its place. -/
inductive Res (α : Type) where
  | ok (x : α) (n : Nat)
  | bad (e p : Nat)
/-- A word, byte by byte. -/
def litR (T : ByteArray) : List UInt8 → Nat → Res Unit
  | [], n => .ok () n
  | c :: cs, n => if n < T.size then (if byteAt T n = c then litR T cs (n + 1) else .bad 10 n) else .bad 3 T.size
theorem litR_cons (T : ByteArray) (c : UInt8) (cs : List UInt8) (n : Nat) : litR T (c :: cs) n = if n < T.size then (if byteAt T n = c then litR T cs (n + 1) else .bad 10 n) else .bad 3 T.size := rfl
theorem heap_alloc_new (w : World) (o : Obj) : (w.alloc o).heap[w.heap.size]? = some o := by
  show (w.heap.push o)[w.heap.size]? = _
  simp
theorem cell_of {w : World} {g : Nat} {cs : Array Value} {t : TypeId} {f : Nat × Nat} (h : w.heap[g]? = some (.cells cs t f)) (o : Nat) : w.cell? ⟨g, o, none⟩ = cs[o]? := by
  simp [World.cell?, h]
theorem frozen_of {w : World} {g : Nat} {cs : Array Value} {t : TypeId} (h : w.heap[g]? = some (.cells cs t (0, 0))) (o : Nat) : w.frozen? ⟨g, o, none⟩ = false := by
  simp [World.frozen?, h]
def nilS : Value := .slice none 0 0
/-- A Value's cells. -/
def vv (kind x : Int) (s : ByteArray) (names items : Value) : Value := .agg #[.int .i64 kind, .int .i64 x, .string s, names, items]
def noS : ByteArray := { data := #[] }
theorem drop_cons (W : ByteArray) (k : Nat) (h : k < W.size) : W.data.toList.drop k = W[k] :: W.data.toList.drop (k + 1) := by
  rw [List.drop_eq_getElem_cons (by simpa using h)]; rfl

/-- What a call that reads comes to, where it answers a Value of one kind and nothing in it. -/
def LitPost (b : Nat) (T : ByteArray) (n : Nat) (kind : Int) (w : World) (e : Ending) (w' : World) : Res Unit → Prop
  | .ok _ n' => e = .returned (vv kind 0 noS nilS nilS) ∧ At b T n' w' ∧ Kp b w w' ∧ n ≤ n' ∧ n' ≤ T.size
  | .bad er p => e = .panicked (faultC er p) ∧ Kp b w w'

set_option maxHeartbeats 1000000 in
theorem literal_any (b n : Nat) (T W : ByteArray) (kind : Int) (w : World) (hA : At b T n w) (hn : n ≤ T.size) (hT : T.size ≤ 65536) (hW : W.size ≤ 100) :
    Calls Tryz.prog 61 #[.pointer (some ⟨b, 0, none⟩), .string W, .int .i64 kind] w fun e w' => LitPost b T n kind w e w' (litR T W.data.toList n) := by
  have hbs := hA.lt
  go_enter Tryz.func61, Tryz.ntmps61
  go_wp2
  go_loopw [10] (fun i wr => ∃ k m : Nat, k ≤ W.size ∧ i = .int .i64 k ∧ n ≤ m ∧ m ≤ T.size ∧ At b T m wr ∧ Kp b w wr ∧ wr.heap[w.heap.size]? = some (.cells #[.int .i64 0, .int .i64 0, .string noS, nilS, nilS] 25 (0, 0)) ∧ Hid (litR T W.data.toList n = litR T (W.data.toList.drop k) m)) (fun i wr => W.size - (intOf i).toNat)
  case atStart => exact ⟨0, n, Nat.zero_le _, rfl, Nat.le_refl _, hn, hA.alloc _, (Kp.refl _ _).alloc _, heap_alloc_new _ _, rfl⟩
  case round =>
    obtain ⟨k, m, hk, rfl, hnm, hm, hAk, hK, hres, HL⟩ := hrel
    have h0 := hAk.c0
    have h1 := hAk.c1
    have hf := hAk.fz 1
    by_cases hlt : k < W.size
    · have hdc := drop_cons W k hlt
      by_cases hmT : m < T.size
      · by_cases hc : byteAt T m = W[k]
        · have HL' : Hid (litR T W.data.toList n = litR T (W.data.toList.drop (k + 1)) (m + 1)) := by
            unfold Hid; rw [HL.out, hdc, litR_cons, if_pos hmT, if_pos hc]
          have HC : Hid (byteAt T m = W[k]) := hc
          clear hc hdc HL
          go_wp2_with (go_at_call 81; refine (pass_ok b m T W[k] _ h0 h1 hf hmT hT HC.out).mono ?_; rintro e w' ⟨rfl, rfl⟩)
          go_roundw
          case rel => exact ⟨k + 1, m + 1, by omega, by go_num, by omega, by omega, (hAk.set _ (m + 1) (by omega)).drew.drew, (hK.setCell _ _).drew.drew, (Below.heap_setCell _ _ _ _ (by show w.heap.size ≠ b; omega)).trans hres, HL'⟩
          case measure => simp [intOf]; omega
        · have HL' : Hid (litR T W.data.toList n = .bad 10 m) := by
            unfold Hid; rw [HL.out, hdc, litR_cons, if_pos hmT, if_neg hc]
          have HC : Hid (byteAt T m ≠ W[k]) := hc
          clear hc hdc HL
          go_wp2_with (go_at_call 81; refine (pass_bad b m T W[k] _ h0 h1 hmT HC.out).mono ?_; rintro e w' ⟨rfl, rfl⟩)
          refine ⟨rfl, ?_⟩
          rw [HL'.out]
          exact ⟨rfl, hK.drew.drew⟩
      · have hmE : m = T.size := by omega
        have HL' : Hid (litR T W.data.toList n = .bad 3 T.size) := by
          unfold Hid; rw [HL.out, hdc, litR_cons, if_neg hmT]
        subst hmE
        clear hdc HL
        go_wp2_with (go_at_call 81; refine (pass_short b T W[k] _ h0 h1).mono ?_; rintro e w' ⟨rfl, rfl⟩)
        refine ⟨rfl, ?_⟩
        rw [HL'.out]
        exact ⟨rfl, hK.drew⟩
    · have hkE : k = W.size := by omega
      have HL' : Hid (litR T W.data.toList n = .ok () m) := by
        unfold Hid; rw [HL.out, hkE, List.drop_of_length_le (by simp)]; rfl
      clear HL
      have q0 : wr.cell? ⟨w.heap.size, 0, none⟩ = some (.int .i64 0) := cell_of hres 0
      have q1 : wr.cell? ⟨w.heap.size, 1, none⟩ = some (.int .i64 0) := cell_of hres 1
      have q2 : wr.cell? ⟨w.heap.size, 2, none⟩ = some (.string noS) := cell_of hres 2
      have q3 : wr.cell? ⟨w.heap.size, 3, none⟩ = some (.slice none 0 0) := cell_of hres 3
      have q4 : wr.cell? ⟨w.heap.size, 4, none⟩ = some (.slice none 0 0) := cell_of hres 4
      have qf := fun o => frozen_of hres o
      go_wp2
      refine bodyPost_ret (v := vv kind 0 noS nilS nilS) ?_ rfl ?_
      · simp [results, Tryz.results61, go_sem, q0, q1, q2, q3, q4, vv, nilS, noS]
      · rw [HL'.out]
        have hx : b ≠ w.heap.size := by omega
        exact ⟨rfl, ((((hAk.setOther hx _).setOther hx _).setOther hx _).setOther hx _).setOther hx _, ((((hK.setNew (Nat.le_refl _) _).setNew (Nat.le_refl _) _).setNew (Nat.le_refl _) _).setNew (Nat.le_refl _) _).setNew (Nat.le_refl _) _, hnm, hm⟩
end Go.Proofs.YtnccaidlcaeeaaaGreatDoor
namespace Go.Proofs.YtnccaidlcaeeaaaGreatDoor
open Go Go.RowKit

/-- One part behind the other, up to the closing bracket. -/
def loopR {α : Type} (part : α → Nat → Res α) (c : UInt8) (T : ByteArray) : Nat → α → Nat → Res α
  | 0, _, _ => .bad 0 0
  | f + 1, s, n => match part s n with
    | .bad e p => .bad e p
    | .ok s' n' =>
      if skip T n' < T.size then
        if byteAt T (skip T n') = c then .ok s' (skip T n' + 1)
        else if byteAt T (skip T n') = 44 then loopR part c T f s' (skip T (skip T n' + 1))
        else .bad 10 (skip T n')
      else .bad 3 T.size
def betweenR {α : Type} (part : α → Nat → Res α) (c : UInt8) (T : ByteArray) (s : α) (n : Nat) : Res α :=
  if skip T (n + 1) < T.size then
    if byteAt T (skip T (n + 1)) = c then .ok s (skip T (n + 1) + 1)
    else loopR part c T (T.size - skip T (n + 1) + 1) s (skip T (n + 1))
  else .bad 3 T.size
def BPost {α : Type} (b : Nat) (T : ByteArray) (n : Nat) (Inv : α → World → Prop) (G : World → Prop) (e : Ending) (w : World) : Res α → Prop
  | .ok s n' => e = .returned (.tuple #[]) ∧ Inv s w ∧ At b T n' w ∧ n < n' ∧ n' ≤ T.size
  | .bad er p => e = .panicked (faultC er p) ∧ G w

/-- What between asks of its part. -/
structure PartOk {α : Type} (b : Nat) (T : ByteArray) (F : Nat) (cap : Array Value) (part : α → Nat → Res α) (sz : α → Nat) (Inv : α → World → Prop) (G : World → Prop) : Prop where
  grow : ∀ s m s' m', part s m = .ok s' m' → sz s' ≤ sz s + 1
  keep : ∀ s w1 w2, Inv s w1 → Kp b w1 w2 → Inv s w2
  gone : ∀ s w1, Inv s w1 → G w1
  walk : ∀ s m w1, Inv s w1 → At b T m w1 → m ≤ T.size → sz s ≤ m → Calls Tryz.prog F cap w1 fun e w2 => BPost b T m Inv G e w2 (part s m)

theorem loopR_succ {α : Type} (part : α → Nat → Res α) (c : UInt8) (T : ByteArray) (f : Nat) (s : α) (n : Nat) : loopR part c T (f + 1) s n = match part s n with
    | .bad e p => .bad e p
    | .ok s' n' =>
      if skip T n' < T.size then
        if byteAt T (skip T n') = c then .ok s' (skip T n' + 1)
        else if byteAt T (skip T n') = 44 then loopR part c T f s' (skip T (skip T n' + 1))
        else .bad 10 (skip T n')
      else .bad 3 T.size := rfl

set_option maxHeartbeats 1000000 in
theorem between_list {α : Type} (b n : Nat) (T : ByteArray) (c : UInt8) (p1 p2 p3 : Addr) (part : α → Nat → Res α) (sz : α → Nat) (Inv : α → World → Prop) (G : World → Prop)
    (hP : PartOk b T 88 #[.pointer (some p1), .pointer (some p2), .pointer (some p3)] part sz Inv G) (s : α) (w : World) (hA : At b T n w) (hn : n < T.size) (hT : T.size ≤ 65536) (hI : Hid (Inv s w)) (hsz : sz s ≤ n) :
    Calls Tryz.prog 87 #[.pointer (some ⟨b, 0, none⟩), .int .u8 (c.toNat : Int), .func (.func 88) #[] #[.pointer (some p1), .pointer (some p2), .pointer (some p3)]] w fun e w' => BPost b T n Inv G e w' (betweenR part c T s n) := by
  have h0 := hA.c0
  have h1 := hA.c1
  have hf := hA.fz 1
  have hA1 : At b T (n + 1) (w.setCell ⟨b, 1, none⟩ (.int .i64 ((n : Int) + 1))) := hA.set _ (n + 1) (by omega)
  have hK1 : Kp b w (w.setCell ⟨b, 1, none⟩ (.int .i64 ((n : Int) + 1))) := (Kp.refl _ _).setCell _ _
  go_enter Tryz.func87, Tryz.ntmps87
  go_wp2_with fail
  refine (blanks_any b (n + 1) T _ hA1 (by omega) hT).mono ?_
  rintro e w1 ⟨rfl, hA2, hK2, _, hb1, hb2⟩
  have hK := hK1.trans hK2
  clear hK1 hK2 hA1 h0 h1 hf
  have h0 := hA2.c0
  have h1 := hA2.c1
  have hf := hA2.fz 1
  by_cases hlt : skip T (n + 1) < T.size
  · by_cases hc : byteAt T (skip T (n + 1)) = c
    · have HR : Hid (betweenR part c T s n = .ok s (skip T (n + 1) + 1)) := by unfold Hid betweenR; rw [if_pos hlt, if_pos hc]
      have hI1 : Hid (Inv s w1) := hP.keep _ _ _ hI.out hK
      have hceq : (((byteAt T (skip T (n + 1))).toNat : Int) == (c.toNat : Int)) = true := by rw [hc]; simp
      clear hc
      generalize skip T (n + 1) = m at *
      go_wp2_with fail
      refine (here_ok b m T _ h0 h1 hlt).mono ?_
      rintro e w2 ⟨rfl, rfl⟩
      go_wp2_with fail
      refine bodyPost_ret (v := .tuple #[]) (by simp [results, Tryz.results87, go_sem]) rfl ?_
      rw [HR.out]
      have hk3 : Kp b w1 (w1.setCell ⟨b, 1, none⟩ (.int .i64 ((m : Int) + 1))).drew.drew := ((Kp.refl _ _).setCell _ _).drew.drew
      exact ⟨rfl, hP.keep _ _ _ hI1.out hk3, (hA2.set _ (m + 1) (by omega)).drew.drew, by omega, by omega⟩
    · have HR : Hid (betweenR part c T s n = loopR part c T (T.size - skip T (n + 1) + 1) s (skip T (n + 1))) := by unfold Hid betweenR; rw [if_pos hlt, if_neg hc]
      have hI1 : Hid (Inv s w1) := hP.keep _ _ _ hI.out hK
      have hceq : (((byteAt T (skip T (n + 1))).toNat : Int) == (c.toNat : Int)) = false := by rw [u8_beq]; simpa using hc
      clear hc hI hK hA
      generalize skip T (n + 1) = m at *
      go_wp2_with fail
      refine (here_ok b m T _ h0 h1 hlt).mono ?_
      rintro e w2 ⟨rfl, rfl⟩
      go_wp2_with fail
      clear h0 h1 hf
      go_loopw [] (fun wr => ∃ (t : α) (k f : Nat), Hid (Inv t wr) ∧ At b T k wr ∧ n < k ∧ k ≤ T.size ∧ T.size ≤ k + f ∧ sz t ≤ k ∧ Hid (betweenR part c T s n = loopR part c T (f + 1) t k)) (fun wr => T.size - (intOf ((wr.cell? ⟨b, 1, none⟩).getD (.int .i64 0))).toNat)
      case atStart => exact ⟨s, m, T.size - m, hP.keep _ _ _ hI1.out (Kp.refl _ _).drew.drew, hA2.drew.drew, by omega, by omega, by omega, by omega, HR⟩
      case round =>
        clear HR hI1 hA2 hlt hceq
        obtain ⟨t, k, f, hIt, hAk, hnk, hk, hf, hszk, HR⟩ := hrel
        have hc1 := hAk.c1
        go_wp2_with fail
        refine (hP.walk t k _ hIt.out hAk hk hszk).mono ?_
        intro e w3 hB
        have HL := loopR_succ part c T f t k
        cases hp : part t k with
        | bad er p =>
          rw [hp] at hB HL
          obtain ⟨rfl, hG⟩ := hB
          have HR' : Hid (betweenR part c T s n = .bad er p) := HR.out.trans HL
          clear HL HR hp
          go_wp2_with fail
          refine ⟨rfl, ?_⟩
          rw [HR'.out]
          exact ⟨rfl, hG⟩
        | ok t' k' =>
          rw [hp] at hB HL
          obtain ⟨rfl, hIt', hAk', hkk, hk'⟩ := hB
          have HR' : Hid (betweenR part c T s n = _) := HR.out.trans HL
          have hJ : Hid (Inv t' w3) := hIt'
          have hgr := hP.grow _ _ _ _ hp
          clear HL HR hp hIt hIt' hAk
          go_wp2_with fail
          refine (blanks_any b k' T _ hAk' hk' hT).mono ?_
          rintro e w4 ⟨rfl, hA4, hK4, _, hb3, hb4⟩
          have hJ4 : Hid (Inv t' w4) := hP.keep _ _ _ hJ.out hK4
          clear hK4 hJ hAk'
          generalize skip T k' = m4 at *
          have q0 := hA4.c0
          have q1 := hA4.c1
          have qf := hA4.fz 1
          by_cases hlt : m4 < T.size
          · by_cases hc : byteAt T m4 = c
            · have hceq : (((byteAt T m4).toNat : Int) == (c.toNat : Int)) = true := by rw [hc]; simp
              have HR2 : Hid (betweenR part c T s n = .ok t' (m4 + 1)) := by
                have := HR'.out; rw [if_pos hlt, if_pos hc] at this; exact this
              clear hc HR'
              go_wp2_with fail
              refine (here_ok b m4 T _ q0 q1 hlt).mono ?_
              rintro e w5 ⟨rfl, rfl⟩
              go_wp2_with fail
              refine bodyPost_ret (v := .tuple #[]) (by simp [results, Tryz.results87, go_sem]) rfl ?_
              rw [HR2.out]
              have hk3 : Kp b w4 (w4.setCell ⟨b, 1, none⟩ (.int .i64 ((m4 : Int) + 1))).drew.drew := ((Kp.refl _ _).setCell _ _).drew.drew
              exact ⟨rfl, hP.keep _ _ _ hJ4.out hk3, (hA4.set _ (m4 + 1) (by omega)).drew.drew, by omega, by omega⟩
            · have hceq : (((byteAt T m4).toNat : Int) == (c.toNat : Int)) = false := by rw [u8_beq]; simpa using hc
              have HR2 : Hid (betweenR part c T s n = if byteAt T m4 = 44 then loopR part c T f t' (skip T (m4 + 1)) else .bad 10 m4) := by
                have := HR'.out; rw [if_pos hlt, if_neg hc] at this; exact this
              clear hc HR'
              go_wp2_with fail
              refine (here_ok b m4 T _ q0 q1 hlt).mono ?_
              rintro e w5 ⟨rfl, rfl⟩
              by_cases hcm : byteAt T m4 = 44
              · have HR3 : Hid (betweenR part c T s n = loopR part c T f t' (skip T (m4 + 1))) := by have := HR2.out; rw [if_pos hcm] at this; exact this
                have HC : Hid (byteAt T m4 = 44) := hcm
                clear hcm HR2
                go_wp2_with fail
                refine (pass_ok b m4 T 44 w4.drew.drew q0 q1 qf hlt hT HC.out).mono ?_
                rintro e w6 ⟨rfl, rfl⟩
                have hA6 : At b T (m4 + 1) (w4.setCell ⟨b, 1, none⟩ (.int .i64 ((m4 : Int) + 1))).drew.drew.drew.drew := hA4.set _ (m4 + 1) (by omega)
                have hk6 : Kp b w4 (w4.setCell ⟨b, 1, none⟩ (.int .i64 ((m4 : Int) + 1))).drew.drew.drew.drew := ((Kp.refl _ _).setCell _ _).drew.drew.drew.drew
                have hJ6 : Hid (Inv t' (w4.setCell ⟨b, 1, none⟩ (.int .i64 ((m4 : Int) + 1))).drew.drew.drew.drew) := hP.keep _ _ _ hJ4.out hk6
                clear hk6
                go_wp2_with fail
                refine (blanks_any b (m4 + 1) T _ hA6 (by omega) hT).mono ?_
                rintro e w7 ⟨rfl, hA7, hK7, _, hb7, hb8⟩
                have hJ7 : Hid (Inv t' w7) := hP.keep _ _ _ hJ6.out hK7
                generalize skip T (m4 + 1) = m7 at *
                have hf1 : ∃ f', f = f' + 1 := ⟨f - 1, by omega⟩
                obtain ⟨f', rfl⟩ := hf1
                clear hK7 hJ6 hA6
                go_wp2_with fail
                go_roundw
                case rel => exact ⟨t', m7, f', hJ7, hA7, by omega, by omega, by omega, by omega, HR3⟩
                case measure => rw [hA7.c1, hc1]; simp [intOf]; omega
              · have HR3 : Hid (betweenR part c T s n = .bad 10 m4) := by have := HR2.out; rw [if_neg hcm] at this; exact this
                have HC : Hid (byteAt T m4 ≠ 44) := hcm
                clear hcm HR2
                go_wp2_with fail
                refine (pass_bad b m4 T 44 w4.drew.drew q0 q1 hlt HC.out).mono ?_
                rintro e w6 ⟨rfl, rfl⟩
                go_wp2_with fail
                refine ⟨rfl, ?_⟩
                rw [HR3.out]
                exact ⟨rfl, hP.gone _ _ (hP.keep _ _ _ hJ4.out (Kp.refl _ _).drew.drew.drew.drew)⟩
          · have hme : m4 = T.size := by omega
            have HR2 : Hid (betweenR part c T s n = .bad 3 T.size) := by
              have := HR'.out; rw [if_neg hlt] at this; exact this
            subst hme
            clear HR' hlt
            go_wp2_with fail
            refine (here_short b T _ q0 q1).mono ?_
            rintro e w5 ⟨rfl, rfl⟩
            go_wp2_with fail
            refine ⟨rfl, ?_⟩
            rw [HR2.out]
            exact ⟨rfl, hP.gone _ _ (hP.keep _ _ _ hJ4.out (Kp.refl _ _).drew)⟩
  · have HR : Hid (betweenR part c T s n = .bad 3 T.size) := by unfold Hid betweenR; rw [if_neg hlt]
    have hI1 : Hid (Inv s w1) := hP.keep _ _ _ hI.out hK
    have hme : skip T (n + 1) = T.size := by omega
    rw [hme] at h1
    clear hme hlt
    go_wp2_with fail
    refine (here_short b T _ h0 h1).mono ?_
    rintro e w2 ⟨rfl, rfl⟩
    go_wp2_with fail
    refine ⟨rfl, ?_⟩
    rw [HR.out]
    exact ⟨rfl, hP.gone _ _ (hP.keep _ _ _ hI1.out (Kp.refl _ _).drew)⟩
set_option maxHeartbeats 1000000 in
theorem between_obj {α : Type} (b n : Nat) (T : ByteArray) (c : UInt8) (p1 p2 p3 p4 : Addr) (part : α → Nat → Res α) (sz : α → Nat) (Inv : α → World → Prop) (G : World → Prop)
    (hP : PartOk b T 89 #[.pointer (some p1), .pointer (some p2), .pointer (some p3), .pointer (some p4)] part sz Inv G) (s : α) (w : World) (hA : At b T n w) (hn : n < T.size) (hT : T.size ≤ 65536) (hI : Hid (Inv s w)) (hsz : sz s ≤ n) :
    Calls Tryz.prog 87 #[.pointer (some ⟨b, 0, none⟩), .int .u8 (c.toNat : Int), .func (.func 89) #[] #[.pointer (some p1), .pointer (some p2), .pointer (some p3), .pointer (some p4)]] w fun e w' => BPost b T n Inv G e w' (betweenR part c T s n) := by
  have h0 := hA.c0
  have h1 := hA.c1
  have hf := hA.fz 1
  have hA1 : At b T (n + 1) (w.setCell ⟨b, 1, none⟩ (.int .i64 ((n : Int) + 1))) := hA.set _ (n + 1) (by omega)
  have hK1 : Kp b w (w.setCell ⟨b, 1, none⟩ (.int .i64 ((n : Int) + 1))) := (Kp.refl _ _).setCell _ _
  go_enter Tryz.func87, Tryz.ntmps87
  go_wp2_with fail
  refine (blanks_any b (n + 1) T _ hA1 (by omega) hT).mono ?_
  rintro e w1 ⟨rfl, hA2, hK2, _, hb1, hb2⟩
  have hK := hK1.trans hK2
  clear hK1 hK2 hA1 h0 h1 hf
  have h0 := hA2.c0
  have h1 := hA2.c1
  have hf := hA2.fz 1
  by_cases hlt : skip T (n + 1) < T.size
  · by_cases hc : byteAt T (skip T (n + 1)) = c
    · have HR : Hid (betweenR part c T s n = .ok s (skip T (n + 1) + 1)) := by unfold Hid betweenR; rw [if_pos hlt, if_pos hc]
      have hI1 : Hid (Inv s w1) := hP.keep _ _ _ hI.out hK
      have hceq : (((byteAt T (skip T (n + 1))).toNat : Int) == (c.toNat : Int)) = true := by rw [hc]; simp
      clear hc
      generalize skip T (n + 1) = m at *
      go_wp2_with fail
      refine (here_ok b m T _ h0 h1 hlt).mono ?_
      rintro e w2 ⟨rfl, rfl⟩
      go_wp2_with fail
      refine bodyPost_ret (v := .tuple #[]) (by simp [results, Tryz.results87, go_sem]) rfl ?_
      rw [HR.out]
      have hk3 : Kp b w1 (w1.setCell ⟨b, 1, none⟩ (.int .i64 ((m : Int) + 1))).drew.drew := ((Kp.refl _ _).setCell _ _).drew.drew
      exact ⟨rfl, hP.keep _ _ _ hI1.out hk3, (hA2.set _ (m + 1) (by omega)).drew.drew, by omega, by omega⟩
    · have HR : Hid (betweenR part c T s n = loopR part c T (T.size - skip T (n + 1) + 1) s (skip T (n + 1))) := by unfold Hid betweenR; rw [if_pos hlt, if_neg hc]
      have hI1 : Hid (Inv s w1) := hP.keep _ _ _ hI.out hK
      have hceq : (((byteAt T (skip T (n + 1))).toNat : Int) == (c.toNat : Int)) = false := by rw [u8_beq]; simpa using hc
      clear hc hI hK hA
      generalize skip T (n + 1) = m at *
      go_wp2_with fail
      refine (here_ok b m T _ h0 h1 hlt).mono ?_
      rintro e w2 ⟨rfl, rfl⟩
      go_wp2_with fail
      clear h0 h1 hf
      go_loopw [] (fun wr => ∃ (t : α) (k f : Nat), Hid (Inv t wr) ∧ At b T k wr ∧ n < k ∧ k ≤ T.size ∧ T.size ≤ k + f ∧ sz t ≤ k ∧ Hid (betweenR part c T s n = loopR part c T (f + 1) t k)) (fun wr => T.size - (intOf ((wr.cell? ⟨b, 1, none⟩).getD (.int .i64 0))).toNat)
      case atStart => exact ⟨s, m, T.size - m, hP.keep _ _ _ hI1.out (Kp.refl _ _).drew.drew, hA2.drew.drew, by omega, by omega, by omega, by omega, HR⟩
      case round =>
        clear HR hI1 hA2 hlt hceq
        obtain ⟨t, k, f, hIt, hAk, hnk, hk, hf, hszk, HR⟩ := hrel
        have hc1 := hAk.c1
        go_wp2_with fail
        refine (hP.walk t k _ hIt.out hAk hk hszk).mono ?_
        intro e w3 hB
        have HL := loopR_succ part c T f t k
        cases hp : part t k with
        | bad er p =>
          rw [hp] at hB HL
          obtain ⟨rfl, hG⟩ := hB
          have HR' : Hid (betweenR part c T s n = .bad er p) := HR.out.trans HL
          clear HL HR hp
          go_wp2_with fail
          refine ⟨rfl, ?_⟩
          rw [HR'.out]
          exact ⟨rfl, hG⟩
        | ok t' k' =>
          rw [hp] at hB HL
          obtain ⟨rfl, hIt', hAk', hkk, hk'⟩ := hB
          have HR' : Hid (betweenR part c T s n = _) := HR.out.trans HL
          have hJ : Hid (Inv t' w3) := hIt'
          have hgr := hP.grow _ _ _ _ hp
          clear HL HR hp hIt hIt' hAk
          go_wp2_with fail
          refine (blanks_any b k' T _ hAk' hk' hT).mono ?_
          rintro e w4 ⟨rfl, hA4, hK4, _, hb3, hb4⟩
          have hJ4 : Hid (Inv t' w4) := hP.keep _ _ _ hJ.out hK4
          clear hK4 hJ hAk'
          generalize skip T k' = m4 at *
          have q0 := hA4.c0
          have q1 := hA4.c1
          have qf := hA4.fz 1
          by_cases hlt : m4 < T.size
          · by_cases hc : byteAt T m4 = c
            · have hceq : (((byteAt T m4).toNat : Int) == (c.toNat : Int)) = true := by rw [hc]; simp
              have HR2 : Hid (betweenR part c T s n = .ok t' (m4 + 1)) := by
                have := HR'.out; rw [if_pos hlt, if_pos hc] at this; exact this
              clear hc HR'
              go_wp2_with fail
              refine (here_ok b m4 T _ q0 q1 hlt).mono ?_
              rintro e w5 ⟨rfl, rfl⟩
              go_wp2_with fail
              refine bodyPost_ret (v := .tuple #[]) (by simp [results, Tryz.results87, go_sem]) rfl ?_
              rw [HR2.out]
              have hk3 : Kp b w4 (w4.setCell ⟨b, 1, none⟩ (.int .i64 ((m4 : Int) + 1))).drew.drew := ((Kp.refl _ _).setCell _ _).drew.drew
              exact ⟨rfl, hP.keep _ _ _ hJ4.out hk3, (hA4.set _ (m4 + 1) (by omega)).drew.drew, by omega, by omega⟩
            · have hceq : (((byteAt T m4).toNat : Int) == (c.toNat : Int)) = false := by rw [u8_beq]; simpa using hc
              have HR2 : Hid (betweenR part c T s n = if byteAt T m4 = 44 then loopR part c T f t' (skip T (m4 + 1)) else .bad 10 m4) := by
                have := HR'.out; rw [if_pos hlt, if_neg hc] at this; exact this
              clear hc HR'
              go_wp2_with fail
              refine (here_ok b m4 T _ q0 q1 hlt).mono ?_
              rintro e w5 ⟨rfl, rfl⟩
              by_cases hcm : byteAt T m4 = 44
              · have HR3 : Hid (betweenR part c T s n = loopR part c T f t' (skip T (m4 + 1))) := by have := HR2.out; rw [if_pos hcm] at this; exact this
                have HC : Hid (byteAt T m4 = 44) := hcm
                clear hcm HR2
                go_wp2_with fail
                refine (pass_ok b m4 T 44 w4.drew.drew q0 q1 qf hlt hT HC.out).mono ?_
                rintro e w6 ⟨rfl, rfl⟩
                have hA6 : At b T (m4 + 1) (w4.setCell ⟨b, 1, none⟩ (.int .i64 ((m4 : Int) + 1))).drew.drew.drew.drew := hA4.set _ (m4 + 1) (by omega)
                have hk6 : Kp b w4 (w4.setCell ⟨b, 1, none⟩ (.int .i64 ((m4 : Int) + 1))).drew.drew.drew.drew := ((Kp.refl _ _).setCell _ _).drew.drew.drew.drew
                have hJ6 : Hid (Inv t' (w4.setCell ⟨b, 1, none⟩ (.int .i64 ((m4 : Int) + 1))).drew.drew.drew.drew) := hP.keep _ _ _ hJ4.out hk6
                clear hk6
                go_wp2_with fail
                refine (blanks_any b (m4 + 1) T _ hA6 (by omega) hT).mono ?_
                rintro e w7 ⟨rfl, hA7, hK7, _, hb7, hb8⟩
                have hJ7 : Hid (Inv t' w7) := hP.keep _ _ _ hJ6.out hK7
                generalize skip T (m4 + 1) = m7 at *
                have hf1 : ∃ f', f = f' + 1 := ⟨f - 1, by omega⟩
                obtain ⟨f', rfl⟩ := hf1
                clear hK7 hJ6 hA6
                go_wp2_with fail
                go_roundw
                case rel => exact ⟨t', m7, f', hJ7, hA7, by omega, by omega, by omega, by omega, HR3⟩
                case measure => rw [hA7.c1, hc1]; simp [intOf]; omega
              · have HR3 : Hid (betweenR part c T s n = .bad 10 m4) := by have := HR2.out; rw [if_neg hcm] at this; exact this
                have HC : Hid (byteAt T m4 ≠ 44) := hcm
                clear hcm HR2
                go_wp2_with fail
                refine (pass_bad b m4 T 44 w4.drew.drew q0 q1 hlt HC.out).mono ?_
                rintro e w6 ⟨rfl, rfl⟩
                go_wp2_with fail
                refine ⟨rfl, ?_⟩
                rw [HR3.out]
                exact ⟨rfl, hP.gone _ _ (hP.keep _ _ _ hJ4.out (Kp.refl _ _).drew.drew.drew.drew)⟩
          · have hme : m4 = T.size := by omega
            have HR2 : Hid (betweenR part c T s n = .bad 3 T.size) := by
              have := HR'.out; rw [if_neg hlt] at this; exact this
            subst hme
            clear HR' hlt
            go_wp2_with fail
            refine (here_short b T _ q0 q1).mono ?_
            rintro e w5 ⟨rfl, rfl⟩
            go_wp2_with fail
            refine ⟨rfl, ?_⟩
            rw [HR2.out]
            exact ⟨rfl, hP.gone _ _ (hP.keep _ _ _ hJ4.out (Kp.refl _ _).drew)⟩
  · have HR : Hid (betweenR part c T s n = .bad 3 T.size) := by unfold Hid betweenR; rw [if_neg hlt]
    have hI1 : Hid (Inv s w1) := hP.keep _ _ _ hI.out hK
    have hme : skip T (n + 1) = T.size := by omega
    rw [hme] at h1
    clear hme hlt
    go_wp2_with fail
    refine (here_short b T _ h0 h1).mono ?_
    rintro e w2 ⟨rfl, rfl⟩
    go_wp2_with fail
    refine ⟨rfl, ?_⟩
    rw [HR.out]
    exact ⟨rfl, hP.gone _ _ (hP.keep _ _ _ hI1.out (Kp.refl _ _).drew)⟩
end Go.Proofs.YtnccaidlcaeeaaaGreatDoor
