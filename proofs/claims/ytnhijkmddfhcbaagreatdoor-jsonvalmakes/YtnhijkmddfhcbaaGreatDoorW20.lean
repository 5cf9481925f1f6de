import Derived.Test.YtnhijkmddfhcbaaGreatDoorW19
import Derived.Test.YtnhijkmddfhcbaaGreatDoorE2
namespace Go.Proofs.YtnhijkmddfhcbaaGreatDoor
open Go Go.RowKit Go.Maps

/-- A text that Print takes. -/
def okT (s : ByteArray) : Prop := s.size ≤ 65536 ∧ Lib.validD s.data.toList = true
theorem tl_zero (s : ByteArray) : tl s 0 = s.data.toList := rfl
theorem drewN_heap (w : World) (n : Nat) : (w.drewN n).heap = w.heap := rfl
theorem esc_size (c : Nat) : 2 ≤ (escB c).length ∧ (escB c).length ≤ 6 := by
  unfold escB; repeat' split
  all_goals simp
theorem qT_len (s : ByteArray) : s.size + 2 ≤ (qT s).length ∧ (qT s).length ≤ 6 * s.size + 2 := by
  have := escT_len s.data.toList
  have e : s.data.toList.length = s.size := by rw [Array.length_toList]; rfl
  unfold qT
  simp only [List.length_append, List.length_cons, List.length_nil]
  omega
set_option maxHeartbeats 1000000 in
theorem qlen_any (s : ByteArray) (hs : okT s) (w : World) : Calls Tryz.prog 31 #[.string s] w fun e w' => e = .returned (.int .i64 ((qT s).length : Int)) ∧ Below w.heap.size w w' := by
  have hsz := hs.1
  have HV : Hid (Lib.validD (tl s 0) = true) := hs.2
  clear hs
  go_enter Tryz.func31, Tryz.ntmps31
  go_wp2
  go_loopw [3] (fun m wr => ∃ (z : Int) (pos : Nat), m = .int .i64 z ∧ 0 ≤ z ∧ z ≤ 1000000 ∧ pos ≤ s.size ∧ Hid (z = 2 + (s.size : Int) + ((eT s pos).length : Int) - pos) ∧ Hid (Lib.validD (tl s pos) = true) ∧ wr.heap[w.heap.size]? = some (.stringIter s pos) ∧ Below w.heap.size w wr) (fun _ wr => s.size - wr.iterPos w.heap.size)
  case atStart => exact ⟨2 + (s.size : Int), 0, rfl, by omega, by omega, Nat.zero_le _, by unfold Hid; simp [eT, escT_nil], HV, heap_alloc_new w _, (Below.refl _ _).alloc (Nat.le_refl _) _⟩
  case round =>
    obtain ⟨z, pos, rfl, hz0, hz1, hpos, HZ, HVp, hit, hbw⟩ := hrel
    by_cases hp : pos < s.size
    · have HC := hid' (char_at hp HVp.out)
      have HIT : Hid (wr.iterPos w.heap.size = pos) := by simp [Hid, World.iterPos, hit]
      have hnx : ∀ ty, (Instr.next (.pointer (some ⟨w.heap.size, 0, none⟩)) true ty).run Tryz.prog wr = .ok (.tuple #[.bool true, .int .i64 pos, .int .i32 ((Utf8.decode s pos).1 : Int)]) (wr.iterAt w.heap.size s (pos + (Utf8.decode s pos).2)) := fun ty => Lib.run_next_any_at wr w.heap.size _ pos ty hit hp
      generalize (Utf8.decode s pos).1 = c at *
      generalize (Utf8.decode s pos).2 = k at *
      have hit2 : (wr.iterAt w.heap.size s (pos + k)).heap[w.heap.size]? = some (.stringIter s (pos + k)) := Lib.iterAt_heap wr w.heap.size _ pos (pos + k) hit
      have hbw2 : Below w.heap.size w (wr.iterAt w.heap.size s (pos + k)) := Lib.below_iterAt hbw (Nat.le_refl _) _ _
      have HIT2 : Hid ((wr.iterAt w.heap.size s (pos + k)).heap[w.heap.size]? = some (.stringIter s (pos + k))) := hit2
      have HGE : Hid (pos + k ≤ s.size ∧ 1 ≤ k) := ⟨HC.out.le, HC.out.ge⟩
      clear hit hit2
      generalize wr.iterAt w.heap.size s (pos + k) = wx at *
      have hes := esc_size c
      go_wp2_with fail
      refine (esc_is c wx).mono ?_
      rintro e w2 ⟨rfl, rfl⟩
      cases hesc : isEsc c with
      | true =>
        have HK : Hid (k = 1 ∧ eT s (pos + k) = eT s pos ++ escB c) := ⟨HC.out.one hesc, by have := HC.out.txt; rwa [if_pos hesc] at this⟩
        go_wp2_with fail
        refine (esc45_any c hesc w2).mono ?_
        rintro e w3 ⟨rfl, nd, rfl⟩
        have hbw3 : Below w.heap.size w (w2.drewN nd) := below_drewN hbw2 nd
        have HIT3 : Hid ((w2.drewN nd).heap[w.heap.size]? = some (.stringIter s (pos + k))) := HIT2.out
        have HSZ : Hid (((⟨(escB c).toArray⟩ : ByteArray).size : Int) = ((escB c).length : Int)) := by unfold Hid; show (((escB c).toArray.size : Nat) : Int) = _; simp
        obtain ⟨y, HY⟩ : ∃ y : Int, Hid (((⟨(escB c).toArray⟩ : ByteArray).size : Int) = y) := ⟨_, rfl⟩
        have hy : 2 ≤ y ∧ y ≤ 6 := by have h1 := HSZ.out; have h2 := HY.out; omega
        have HYE : Hid (y = ((escB c).length : Int)) := by unfold Hid; rw [← HY.out]; exact HSZ.out
        have hyr := HY.out
        clear hesc
        generalize w2.drewN nd = w4 at *
        go_wp2_with fail
        go_roundw
        case rel =>
          refine ⟨_, pos + k, rfl, by omega, ?_, HGE.out.1, ?_, HC.out.next, HIT3.out, hbw3⟩
          · have h1 := HK.out
            have h2 := eT_len s (pos + k) HGE.out.1
            have h3 := congrArg List.length h1.2
            rw [List.length_append] at h3
            have h4 := HZ.out
            have h5 := HYE.out
            omega
          · unfold Hid
            have h1 := HK.out
            have h3 := congrArg List.length h1.2
            rw [List.length_append] at h3
            have h4 := HZ.out
            have h5 := HYE.out
            omega
        case measure =>
          have h2 : w4.iterPos w.heap.size = pos + k := by unfold World.iterPos; rw [HIT3.out]
          rw [h2, HIT.out]
          have := HGE.out
          omega
      | false =>
        have HK : Hid ((eT s (pos + k)).length = (eT s pos).length + k) := by
          have h1 := HC.out.txt
          rw [if_neg (by rw [hesc]; decide)] at h1
          unfold Hid
          rw [h1, List.length_append, HC.out.wide hesc]
        clear hesc
        go_wp2_with fail
        go_roundw
        case rel =>
          refine ⟨_, pos + k, rfl, hz0, hz1, HGE.out.1, ?_, HC.out.next, HIT2.out, hbw2⟩
          unfold Hid
          have h1 := HK.out
          have h4 := HZ.out
          omega
        case measure =>
          have h2 : w2.iterPos w.heap.size = pos + k := by unfold World.iterPos; rw [HIT2.out]
          rw [h2, HIT.out]
          have := HGE.out
          omega
    · have hnx : ∀ ty, (Instr.next (.pointer (some ⟨w.heap.size, 0, none⟩)) true ty).run Tryz.prog wr = .ok (.tuple #[.bool false]) wr := fun ty => Lib.run_next_end_at wr w.heap.size _ pos ty hit (by omega)
      have HE : Hid (z = ((qT s).length : Int)) := by
        have e : pos = s.size := by omega
        have h4 := HZ.out
        rw [e, eT_end] at h4
        unfold Hid qT
        simp only [List.length_append, List.length_cons, List.length_nil]
        omega
      clear hit
      go_wp2_with fail
      go_ret
      exact ⟨ret_int HE.out, hbw⟩

theorem const_null (w : World) : Calls Tryz.prog 33 #[.int .i64 0] w fun e w' => e = .returned (.string ⟨#[110, 117, 108, 108]⟩) ∧ w' = w := by
  go_enter Tryz.func33, Tryz.ntmps33
  go_wp2
  go_ret
  exact ⟨rfl, rfl⟩
theorem const_false (w : World) : Calls Tryz.prog 33 #[.int .i64 1] w fun e w' => e = .returned (.string ⟨#[102, 97, 108, 115, 101]⟩) ∧ w' = w := by
  go_enter Tryz.func33, Tryz.ntmps33
  go_wp2
  go_ret
  exact ⟨rfl, rfl⟩
theorem const_true (w : World) : Calls Tryz.prog 33 #[.int .i64 2] w fun e w' => e = .returned (.string ⟨#[116, 114, 117, 101]⟩) ∧ w' = w := by
  go_enter Tryz.func33, Tryz.ntmps33
  go_wp2
  go_ret
  exact ⟨rfl, rfl⟩
/-- FormatInt, base 10. -/
theorem fmt_any (n : Int) (h0 : -9223372036854775808 ≤ n) (h1 : n ≤ 9223372036854775807) (w : World) (hT : Lib.TabIs Tryz.prog w "internal/strconv.uint64pow10" .u64 Lib.pow10Tab) :
    Calls Tryz.prog 30 #[.int .i64 n, .int .i64 10] w fun e w' => e = .returned (.string ⟨(Lib.itoa n).toArray⟩) ∧ Below w.heap.size w w' := by
  refine (Tryz.strconv_FormatInt_10 n h0 h1 w hT).mono ?_
  rintro e w' ⟨rfl, k, os, rfl⟩
  refine ⟨rfl, rfl, rfl, rfl, ?_, ?_⟩
  · show w.heap.size ≤ (w.heap ++ os).size
    rw [Array.size_append]; omega
  · intro i hi
    show (w.heap ++ os)[i]? = w.heap[i]?
    rw [Array.getElem?_append_left hi]
theorem glob3 : Tryz.prog.globalNamed "internal/strconv.uint64pow10" = some 3 := by kernel_rfl
theorem tab_below {w w1 : World} {B : Nat} (h : Lib.TabIs Tryz.prog w "internal/strconv.uint64pow10" .u64 Lib.pow10Tab) (hb : Below B w w1) (h8 : 8 ≤ B) : Lib.TabIs Tryz.prog w1 "internal/strconv.uint64pow10" .u64 Lib.pow10Tab :=
  var?_below hb glob3 (by omega) h
end Go.Proofs.YtnhijkmddfhcbaaGreatDoor
