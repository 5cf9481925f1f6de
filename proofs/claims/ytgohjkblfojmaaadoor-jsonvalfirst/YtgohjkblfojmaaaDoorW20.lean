import Derived.Test.YtgohjkblfojmaaaDoorW19
namespace Go.Proofs.YtgohjkblfojmaaaDoor
open Go Go.RowKit Go.Maps

/-- A text that is written as it stands. -/
def okT (s : ByteArray) : Prop := s.size ≤ 65536 ∧ ∀ i, i < s.size → 32 ≤ (byteAt s i).toNat ∧ (byteAt s i).toNat < 128 ∧ byteAt s i ≠ 34 ∧ byteAt s i ≠ 92
theorem esc_no (c : UInt8) (h1 : 32 ≤ c.toNat) (h2 : c ≠ 34) (h3 : c ≠ 92) (w : World) : Calls Tryd.prog 44 #[.int .i32 (c.toNat : Int)] w fun e w' => e = .returned (.bool false) ∧ w' = w := by
  have e1 : ¬ ((c.toNat : Int) < 32) := by omega
  have e2 : ((c.toNat : Int) == 34) = false := beq_ne c 34 h2
  have e3 : ((c.toNat : Int) == 92) = false := beq_ne c 92 h3
  go_enter Tryd.func44, Tryd.ntmps44
  go_wp2
  go_ret
  exact ⟨rfl, rfl⟩
set_option maxHeartbeats 1000000 in
theorem qlen_any (s : ByteArray) (hs : okT s) (w : World) : Calls Tryd.prog 22 #[.string s] w fun e w' => e = .returned (.int .i64 ((s.size : Int) + 2)) ∧ Below w.heap.size w w' := by
  have hsz := hs.1
  have HS : Hid (okT s) := hs
  clear hs
  go_enter Tryd.func22, Tryd.ntmps22
  go_wp2
  go_loopw [3] (fun m wr => m = .int .i64 (2 + (s.size : Int)) ∧ ∃ pos : Nat, pos ≤ s.size ∧ wr.heap[w.heap.size]? = some (.stringIter s pos) ∧ Below w.heap.size w wr) (fun _ wr => s.size - wr.iterPos w.heap.size)
  case atStart => exact ⟨rfl, 0, Nat.zero_le _, heap_alloc_new w _, (Below.refl _ _).alloc (Nat.le_refl _) _⟩
  case round =>
    obtain ⟨rfl, pos, hpos, hit, hbw⟩ := hrel
    by_cases hp : pos < s.size
    · have hb := HS.out.2 pos hp
      have he := byteAt_eq hp
      have hnx : ∀ ty, (Instr.next (.pointer (some ⟨w.heap.size, 0, none⟩)) true ty).run Tryd.prog wr = .ok (.tuple #[.bool true, .int .i64 pos, .int .i32 ((byteAt s pos).toNat : Int)]) (wr.iterAt w.heap.size s (pos + 1)) := fun ty => by
        rw [Lib.run_next_ascii_at wr w.heap.size _ pos ty hit hp (by rw [he]; exact hb.2.1), he]
      have hit2 : (wr.iterAt w.heap.size s (pos + 1)).heap[w.heap.size]? = some (.stringIter s (pos + 1)) := Lib.iterAt_heap wr w.heap.size _ pos (pos + 1) hit
      have hbw2 : Below w.heap.size w (wr.iterAt w.heap.size s (pos + 1)) := Lib.below_iterAt hbw (Nat.le_refl _) _ _
      have HIT : Hid (wr.iterPos w.heap.size = pos) := by simp [Hid, World.iterPos, hit]
      have HIT2 : Hid ((wr.iterAt w.heap.size s (pos + 1)).heap[w.heap.size]? = some (.stringIter s (pos + 1))) := hit2
      clear hit hit2 he
      generalize wr.iterAt w.heap.size s (pos + 1) = wx at *
      go_wp2_with fail
      refine (esc_no (byteAt s pos) hb.1 hb.2.2.1 hb.2.2.2 wx).mono ?_
      rintro e w2 ⟨rfl, rfl⟩
      go_wp2_with fail
      go_roundw
      case rel => exact ⟨rfl, pos + 1, by omega, HIT2.out, hbw2⟩
      case measure =>
        have h2 : w2.iterPos w.heap.size = pos + 1 := by unfold World.iterPos; rw [HIT2.out]
        rw [h2, HIT.out]
        omega
    · have hnx : ∀ ty, (Instr.next (.pointer (some ⟨w.heap.size, 0, none⟩)) true ty).run Tryd.prog wr = .ok (.tuple #[.bool false]) wr := fun ty => Lib.run_next_end_at wr w.heap.size _ pos ty hit (by omega)
      clear hit
      go_wp2_with fail
      go_ret
      exact ⟨ret_int (by omega), hbw⟩

theorem const_null (w : World) : Calls Tryd.prog 24 #[.int .i64 0] w fun e w' => e = .returned (.string ⟨#[110, 117, 108, 108]⟩) ∧ w' = w := by
  go_enter Tryd.func24, Tryd.ntmps24
  go_wp2
  go_ret
  exact ⟨rfl, rfl⟩
theorem const_false (w : World) : Calls Tryd.prog 24 #[.int .i64 1] w fun e w' => e = .returned (.string ⟨#[102, 97, 108, 115, 101]⟩) ∧ w' = w := by
  go_enter Tryd.func24, Tryd.ntmps24
  go_wp2
  go_ret
  exact ⟨rfl, rfl⟩
theorem const_true (w : World) : Calls Tryd.prog 24 #[.int .i64 2] w fun e w' => e = .returned (.string ⟨#[116, 114, 117, 101]⟩) ∧ w' = w := by
  go_enter Tryd.func24, Tryd.ntmps24
  go_wp2
  go_ret
  exact ⟨rfl, rfl⟩
/-- FormatInt, base 10. -/
theorem fmt_any (n : Int) (h0 : -9223372036854775808 ≤ n) (h1 : n ≤ 9223372036854775807) (w : World) (hT : Lib.TabIs Tryd.prog w "internal/strconv.uint64pow10" .u64 Lib.pow10Tab) :
    Calls Tryd.prog 21 #[.int .i64 n, .int .i64 10] w fun e w' => e = .returned (.string ⟨(Lib.itoa n).toArray⟩) ∧ Below w.heap.size w w' := by
  refine (Tryd.strconv_FormatInt_10 n h0 h1 w hT).mono ?_
  rintro e w' ⟨rfl, k, os, rfl⟩
  refine ⟨rfl, rfl, rfl, rfl, ?_, ?_⟩
  · show w.heap.size ≤ (w.heap ++ os).size
    rw [Array.size_append]; omega
  · intro i hi
    show (w.heap ++ os)[i]? = w.heap[i]?
    rw [Array.getElem?_append_left hi]
theorem glob3 : Tryd.prog.globalNamed "internal/strconv.uint64pow10" = some 3 := by kernel_rfl
theorem tab_below {w w1 : World} {B : Nat} (h : Lib.TabIs Tryd.prog w "internal/strconv.uint64pow10" .u64 Lib.pow10Tab) (hb : Below B w w1) (h8 : 8 ≤ B) : Lib.TabIs Tryd.prog w1 "internal/strconv.uint64pow10" .u64 Lib.pow10Tab :=
  var?_below hb glob3 (by omega) h
end Go.Proofs.YtgohjkblfojmaaaDoor
