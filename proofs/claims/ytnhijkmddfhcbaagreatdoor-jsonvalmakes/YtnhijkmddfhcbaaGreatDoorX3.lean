import Derived.Test.YtnhijkmddfhcbaaGreatDoorX2
import Derived.Lib.TrimU
namespace Go.Proofs.YtnhijkmddfhcbaaGreatDoor
open Go Go.RowKit Go.Maps
def fullT (T : ByteArray) (n : Nat) : Bool := fullN (T.size - n) (byteAt T n).toNat (byteAt T (n + 1)).toNat (byteAt T (n + 2)).toNat
theorem tail_byte (T : ByteArray) (n j : Nat) : byteAt (T.extract n T.size) j = byteAt T (n + j) := by
  have h1 : ∀ (S : ByteArray) (i : Nat), byteAt S i = S.get! i := fun S i => by
    rw [← Lib.getD_get!']
    unfold byteAt
    simp [Array.getD_eq_getD_getElem?, List.getD_eq_getElem?_getD]
  rw [h1, h1]
  exact Lib.tail_get! T n j
theorem full_tail (T : ByteArray) (n : Nat) : fullN (T.extract n T.size).size (byteAt (T.extract n T.size) 0).toNat (byteAt (T.extract n T.size) 1).toNat (byteAt (T.extract n T.size) 2).toNat = fullT T n := by
  rw [tail_byte, tail_byte, tail_byte, Lib.tail_size]; rfl
theorem decode_tail (T : ByteArray) (n : Nat) (h : n < T.size) : Lib.decodeGo (T.extract n T.size) = Utf8.decode T n := by
  unfold Lib.decodeGo
  rw [if_neg (by rw [Lib.tail_size]; omega), Lib.tail_decode]; rfl
set_option maxHeartbeats 1000000 in
theorem character_ok (b n : Nat) (T : ByteArray) (w : World) (hA : At b T n w) (hU : Lib.Utf8Tabs 1 2 w) (h8 : 8 ≤ w.heap.size) (hn : n < T.size) (hf : fullT T n = true) (hd : (Utf8.decode T n).2 ≠ 1) :
    Calls Tryz.prog 77 #[.pointer (some ⟨b, 0, none⟩)] w fun e w' => e = .returned (.tuple #[]) ∧ Below w.heap.size w w' := by
  have x0 := hA.c0
  have x1 := hA.c1
  have hbl := hA.lt
  have i1 : (0 : Int) ≤ (n : Int) := by omega
  have i2 : (n : Int) ≤ (T.size : Int) := by omega
  have hsz : 0 < (T.extract n T.size).size := by rw [Lib.tail_size]; omega
  have HF : Hid (∀ w', Lib.Utf8Tabs 1 2 w' → Calls Tryz.prog 93 #[.string (T.extract n T.size)] w' fun e w'' => e = .returned (.bool true) ∧ Below w'.heap.size w' w'') := fun w' hU' => by
    have := full_any (T.extract n T.size) hsz w' hU'
    rw [full_tail, hf] at this
    exact this
  have HD : Hid (∀ w', Lib.Utf8Tabs 1 2 w' → Calls Tryz.prog 94 #[.string (T.extract n T.size)] w' fun e w'' => e = .returned (.tuple #[.int .i32 ((Utf8.decode T n).1 : Int), .int .i64 ((Utf8.decode T n).2 : Int)]) ∧ Below w'.heap.size w' w'') := fun w' hU' => by
    have := Tryz.utf8_DecodeRuneInString (T.extract n T.size) w' hU'
    rw [decode_tail T n hn] at this
    exact this
  have g1 : (((Utf8.decode T n).2 : Int) == 1) = false := by simp; omega
  clear hsz hf hd
  go_enter Tryz.func77, Tryz.ntmps77
  go_wp2_with fail
  go_quiet (fail)
  go_wp2_with fail
  refine (HF.out (w.drewN nq) (utf_keep hU (fun _ _ => rfl))).mono ?_
  rintro e w1 ⟨rfl, hb1⟩
  have hb1' : Below w.heap.size w w1 := (below_drewN (Below.refl _ _) nq).trans hb1
  have hA1 : At b T n w1 := (hb1'.block b hbl).trans hA
  have z0 := hA1.c0
  have z1 := hA1.c1
  have hU1 : Lib.Utf8Tabs 1 2 w1 := utf_keep hU (fun k hk => hb1'.block k (by omega))
  clear hb1 x0 x1
  go_wp2_with fail
  refine (HD.out w1 hU1).mono ?_
  rintro e w2 ⟨rfl, hb2⟩
  have hb2' : Below w.heap.size w w2 := hb1'.trans (hb2.mono hb1'.size)
  have hA2 : At b T n w2 := (hb2'.block b hbl).trans hA
  have y0 := hA2.c0
  have y1 := hA2.c1
  clear hb2 z0 z1
  generalize ((Utf8.decode T n).2 : Int) = dz at *
  generalize ((Utf8.decode T n).1 : Int) = dc at *
  go_wp2_with fail
  go_end0
  exact ⟨rfl, hb2'⟩
set_option maxHeartbeats 1000000 in
theorem character_bad (b n : Nat) (T : ByteArray) (w : World) (hA : At b T n w) (hU : Lib.Utf8Tabs 1 2 w) (h8 : 8 ≤ w.heap.size) (hn : n < T.size) (hf : fullT T n = true) (hd : (Utf8.decode T n).2 = 1) :
    Calls Tryz.prog 77 #[.pointer (some ⟨b, 0, none⟩)] w fun e w' => e = .panicked (faultC 13 n) ∧ Below w.heap.size w w' := by
  have x0 := hA.c0
  have x1 := hA.c1
  have hbl := hA.lt
  have i1 : (0 : Int) ≤ (n : Int) := by omega
  have i2 : (n : Int) ≤ (T.size : Int) := by omega
  have hsz : 0 < (T.extract n T.size).size := by rw [Lib.tail_size]; omega
  have HF : Hid (∀ w', Lib.Utf8Tabs 1 2 w' → Calls Tryz.prog 93 #[.string (T.extract n T.size)] w' fun e w'' => e = .returned (.bool true) ∧ Below w'.heap.size w' w'') := fun w' hU' => by
    have := full_any (T.extract n T.size) hsz w' hU'
    rw [full_tail, hf] at this
    exact this
  have HD : Hid (∀ w', Lib.Utf8Tabs 1 2 w' → Calls Tryz.prog 94 #[.string (T.extract n T.size)] w' fun e w'' => e = .returned (.tuple #[.int .i32 ((Utf8.decode T n).1 : Int), .int .i64 ((Utf8.decode T n).2 : Int)]) ∧ Below w'.heap.size w' w'') := fun w' hU' => by
    have := Tryz.utf8_DecodeRuneInString (T.extract n T.size) w' hU'
    rw [decode_tail T n hn] at this
    exact this
  have g1 : (((Utf8.decode T n).2 : Int) == 1) = true := by rw [hd]; rfl
  clear hsz hf hd
  go_enter Tryz.func77, Tryz.ntmps77
  go_wp2_with fail
  go_quiet (fail)
  go_wp2_with fail
  refine (HF.out (w.drewN nq) (utf_keep hU (fun _ _ => rfl))).mono ?_
  rintro e w1 ⟨rfl, hb1⟩
  have hb1' : Below w.heap.size w w1 := (below_drewN (Below.refl _ _) nq).trans hb1
  have hA1 : At b T n w1 := (hb1'.block b hbl).trans hA
  have z0 := hA1.c0
  have z1 := hA1.c1
  have hU1 : Lib.Utf8Tabs 1 2 w1 := utf_keep hU (fun k hk => hb1'.block k (by omega))
  clear hb1 x0 x1
  go_wp2_with fail
  refine (HD.out w1 hU1).mono ?_
  rintro e w2 ⟨rfl, hb2⟩
  have hb2' : Below w.heap.size w w2 := hb1'.trans (hb2.mono hb1'.size)
  have hA2 : At b T n w2 := (hb2'.block b hbl).trans hA
  have y0 := hA2.c0
  have y1 := hA2.c1
  clear hb2 z0 z1
  generalize ((Utf8.decode T n).2 : Int) = dz at *
  generalize ((Utf8.decode T n).1 : Int) = dc at *
  go_wp2_with fail
  exact ⟨rfl, rfl, hb2'⟩
set_option maxHeartbeats 1000000 in
theorem character_short (b n : Nat) (T : ByteArray) (w : World) (hA : At b T n w) (hU : Lib.Utf8Tabs 1 2 w) (h8 : 8 ≤ w.heap.size) (hn : n < T.size) (hf : fullT T n = false) :
    Calls Tryz.prog 77 #[.pointer (some ⟨b, 0, none⟩)] w fun e w' => e = .panicked (faultC 3 T.size) ∧ Below w.heap.size w w' := by
  have x0 := hA.c0
  have x1 := hA.c1
  have hbl := hA.lt
  have i1 : (0 : Int) ≤ (n : Int) := by omega
  have i2 : (n : Int) ≤ (T.size : Int) := by omega
  have hsz : 0 < (T.extract n T.size).size := by rw [Lib.tail_size]; omega
  have HF : Hid (∀ w', Lib.Utf8Tabs 1 2 w' → Calls Tryz.prog 93 #[.string (T.extract n T.size)] w' fun e w'' => e = .returned (.bool false) ∧ Below w'.heap.size w' w'') := fun w' hU' => by
    have := full_any (T.extract n T.size) hsz w' hU'
    rw [full_tail, hf] at this
    exact this
  clear hsz hf
  go_enter Tryz.func77, Tryz.ntmps77
  go_wp2_with fail
  go_quiet (fail)
  go_wp2_with fail
  refine (HF.out (w.drewN nq) (utf_keep hU (fun _ _ => rfl))).mono ?_
  rintro e w1 ⟨rfl, hb1⟩
  have hb1' : Below w.heap.size w w1 := (below_drewN (Below.refl _ _) nq).trans hb1
  have hA1 : At b T n w1 := (hb1'.block b hbl).trans hA
  have z0 := hA1.c0
  have z1 := hA1.c1
  have hU1 : Lib.Utf8Tabs 1 2 w1 := utf_keep hU (fun k hk => hb1'.block k (by omega))
  clear hb1 x0 x1
  go_wp2_with fail
  exact ⟨rfl, rfl, hb1'⟩
end Go.Proofs.YtnhijkmddfhcbaaGreatDoor
