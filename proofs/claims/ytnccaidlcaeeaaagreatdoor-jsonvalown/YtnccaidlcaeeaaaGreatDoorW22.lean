import Derived.Test.YtnccaidlcaeeaaaGreatDoorW19
import Derived.Test.YtnccaidlcaeeaaaGreatDoorE2
namespace Go.Proofs.YtnccaidlcaeeaaaGreatDoor
open Go Go.RowKit Go.Maps

/-- A text that Print takes. -/
def okT (s : ByteArray) : Prop := s.size ≤ 65536 ∧ Lib.validD s.data.toList = true
theorem tl_zero (s : ByteArray) : tl s 0 = s.data.toList := rfl
theorem drewN_heap (w : World) (n : Nat) : (w.drewN n).heap = w.heap := rfl
theorem esc_size (c : Nat) : 2 ≤ (escB c).length ∧ (escB c).length ≤ 6 := by
  unfold escB; repeat' split
  all_goals simp
theorem qT_len (s : ByteArray) : s.size + 2 ≤ (qT s).length ∧ (qT s).length ≤ 6 * s.size + 2 := by
  have := escT_len s.data.toList
  have e : s.data.toList.length = s.size := by rw [Array.length_toList]; rfl
  unfold qT
  simp only [List.length_append, List.length_cons, List.length_nil]
  omega
set_option maxHeartbeats 1000000 in
theorem qlen_any (s : ByteArray) (hs : okT s) (w : World) : Calls Tryz.prog 45 #[.string s] w fun e w' => e = .returned (.int .i64 ((qT s).length : Int)) ∧ Below w.heap.size w w' := by
  have hsz := hs.1
  have HV : Hid (Lib.validD (tl s 0) = true) := hs.2
  clear hs
  go_enter Tryz.func45, Tryz.ntmps45
  go_wp2
  go_loopw [3] (fun m wr => ∃ (z : Int) (pos : Nat), m = .int .i64 z ∧ 0 ≤ z ∧ z ≤ 1000000 ∧ pos ≤ s.size ∧ Hid (z = 2 + (s.size : Int) + ((eT s pos).length : Int) - pos) ∧ Hid (Lib.validD (tl s pos) = true) ∧ wr.heap[w.heap.size]? = some (.stringIter s pos) ∧ Below w.heap.size w wr) (fun _ wr => s.size - wr.iterPos w.heap.size)
  case atStart => exact ⟨2 + (s.size : Int), 0, rfl, by omega, by omega, Nat.zero_le _, by unfold Hid; simp [eT, escT_nil], HV, heap_alloc_new w _, (Below.refl _ _).alloc (Nat.le_refl _) _⟩
  case round =>
    obtain ⟨z, pos, rfl, hz0, hz1, hpos, HZ, HVp, hit, hbw⟩ := hrel
    by_cases hp : pos < s.size
    · have HC := hid' (char_at hp HVp.out)
      have HIT : Hid (wr.iterPos w.heap.size = pos) := by simp [Hid, World.iterPos, hit]
      have hnx : ∀ ty, (Instr.next (.pointer (some ⟨w.heap.size, 0, none⟩)) true ty).run Tryz.prog wr = .ok (.tuple #[.bool true, .int .i64 pos, .int .i32 ((Utf8.decode s pos).1 : Int)]) (wr.iterAt w.heap.size s (pos + (Utf8.decode s pos).2)) := fun ty => Lib.run_next_any_at wr w.heap.size _ pos ty hit hp
      generalize (Utf8.decode s pos).1 = c at *
      generalize (Utf8.decode s pos).2 = k at *
      have hit2 : (wr.iterAt w.heap.size s (pos + k)).heap[w.heap.size]? = some (.stringIter s (pos + k)) := Lib.iterAt_heap wr w.heap.size _ pos (pos + k) hit
      have hbw2 : Below w.heap.size w (wr.iterAt w.heap.size s (pos + k)) := Lib.below_iterAt hbw (Nat.le_refl _) _ _
      have HIT2 : Hid ((wr.iterAt w.heap.size s (pos + k)).heap[w.heap.size]? = some (.stringIter s (pos + k))) := hit2
      have HGE : Hid (pos + k ≤ s.size ∧ 1 ≤ k) := ⟨HC.out.le, HC.out.ge⟩
      clear hit hit2
      generalize wr.iterAt w.heap.size s (pos + k) = wx at *
      have hes := esc_size c
      go_wp2_with fail
      refine (esc_is c wx).mono ?_
      rintro e w2 ⟨rfl, rfl⟩
      cases hesc : isEsc c with
      | true =>
        have HK : Hid (k = 1 ∧ eT s (pos + k) = eT s pos ++ escB c) := ⟨HC.out.one hesc, by have := HC.out.txt; rwa [if_pos hesc] at this⟩
        go_wp2_with fail
        refine (esc45_any c hesc w2).mono ?_
        rintro e w3 ⟨rfl, nd, rfl⟩
        have hbw3 : Below w.heap.size w (w2.drewN nd) := below_drewN hbw2 nd
        have HIT3 : Hid ((w2.drewN nd).heap[w.heap.size]? = some (.stringIter s (pos + k))) := HIT2.out
        have HSZ : Hid (((⟨(escB c).toArray⟩ : ByteArray).size : Int) = ((escB c).length : Int)) := by unfold Hid; show (((escB c).toArray.size : Nat) : Int) = _; simp
        obtain ⟨y, HY⟩ : ∃ y : Int, Hid (((⟨(escB c).toArray⟩ : ByteArray).size : Int) = y) := ⟨_, rfl⟩
        have hy : 2 ≤ y ∧ y ≤ 6 := by have h1 := HSZ.out; have h2 := HY.out; omega
        have HYE : Hid (y = ((escB c).length : Int)) := by unfold Hid; rw [← HY.out]; exact HSZ.out
        have hyr := HY.out
        clear hesc
        generalize w2.drewN nd = w4 at *
        go_wp2_with fail
        go_roundw
        case rel =>
          refine ⟨_, pos + k, rfl, by omega, ?_, HGE.out.1, ?_, HC.out.next, HIT3.out, hbw3⟩
          · have h1 := HK.out
            have h2 := eT_len s (pos + k) HGE.out.1
            have h3 := congrArg List.length h1.2
            rw [List.length_append] at h3
            have h4 := HZ.out
            have h5 := HYE.out
            omega
          · unfold Hid
            have h1 := HK.out
            have h3 := congrArg List.length h1.2
            rw [List.length_append] at h3
            have h4 := HZ.out
            have h5 := HYE.out
            omega
        case measure =>
          have h2 : w4.iterPos w.heap.size = pos + k := by unfold World.iterPos; rw [HIT3.out]
          rw [h2, HIT.out]
          have := HGE.out
          omega
      | false =>
        have HK : Hid ((eT s (pos + k)).length = (eT s pos).length + k) := by
          have h1 := HC.out.txt
          rw [if_neg (by rw [hesc]; decide)] at h1
          unfold Hid
          rw [h1, List.length_append, HC.out.wide hesc]
        clear hesc
        go_wp2_with fail
        go_roundw
        case rel =>
          refine ⟨_, pos + k, rfl, hz0, hz1, HGE.out.1, ?_, HC.out.next, HIT2.out, hbw2⟩
          unfold Hid
          have h1 := HK.out
          have h4 := HZ.out
          omega
        case measure =>
          have h2 : w2.iterPos w.heap.size = pos + k := by unfold World.iterPos; rw [HIT2.out]
          rw [h2, HIT.out]
          have := HGE.out
          omega
    · have hnx : ∀ ty, (Instr.next (.pointer (some ⟨w.heap.size, 0, none⟩)) true ty).run Tryz.prog wr = .ok (.tuple #[.bool false]) wr := fun ty => Lib.run_next_end_at wr w.heap.size _ pos ty hit (by omega)
      have HE : Hid (z = ((qT s).length : Int)) := by
        have e : pos = s.size := by omega
        have h4 := HZ.out
        rw [e, eT_end] at h4
        unfold Hid qT
        simp only [List.length_append, List.length_cons, List.length_nil]
        omega
      clear hit
      go_wp2_with fail
      go_ret
      exact ⟨ret_int HE.out, hbw⟩

theorem const_null (w : World) : Calls Tryz.prog 47 #[.int .i64 0] w fun e w' => e = .returned (.string ⟨#[110, 117, 108, 108]⟩) ∧ w' = w := by
  go_enter Tryz.func47, Tryz.ntmps47
  go_wp2
  go_ret
  exact ⟨rfl, rfl⟩
theorem const_false (w : World) : Calls Tryz.prog 47 #[.int .i64 1] w fun e w' => e = .returned (.string ⟨#[102, 97, 108, 115, 101]⟩) ∧ w' = w := by
  go_enter Tryz.func47, Tryz.ntmps47
  go_wp2
  go_ret
  exact ⟨rfl, rfl⟩
theorem const_true (w : World) : Calls Tryz.prog 47 #[.int .i64 2] w fun e w' => e = .returned (.string ⟨#[116, 114, 117, 101]⟩) ∧ w' = w := by
  go_enter Tryz.func47, Tryz.ntmps47
  go_wp2
  go_ret
  exact ⟨rfl, rfl⟩
/-- FormatInt, base 10. -/
theorem fmt_any (n : Int) (h0 : -9223372036854775808 ≤ n) (h1 : n ≤ 9223372036854775807) (w : World) (hT : Lib.TabIs Tryz.prog w "internal/strconv.uint64pow10" .u64 Lib.pow10Tab) :
    Calls Tryz.prog 44 #[.int .i64 n, .int .i64 10] w fun e w' => e = .returned (.string ⟨(Lib.itoa n).toArray⟩) ∧ Below w.heap.size w w' := by
  refine (Tryz.strconv_FormatInt_10 n h0 h1 w hT).mono ?_
  rintro e w' ⟨rfl, k, os, rfl⟩
  refine ⟨rfl, rfl, rfl, rfl, ?_, ?_⟩
  · show w.heap.size ≤ (w.heap ++ os).size
    rw [Array.size_append]; omega
  · intro i hi
    show (w.heap ++ os)[i]? = w.heap[i]?
    rw [Array.getElem?_append_left hi]
theorem glob3 : Tryz.prog.globalNamed "internal/strconv.uint64pow10" = some 3 := by kernel_rfl
theorem tab_below {w w1 : World} {B : Nat} (h : Lib.TabIs Tryz.prog w "internal/strconv.uint64pow10" .u64 Lib.pow10Tab) (hb : Below B w w1) (h8 : 8 ≤ B) : Lib.TabIs Tryz.prog w1 "internal/strconv.uint64pow10" .u64 Lib.pow10Tab :=
  var?_below hb glob3 (by omega) h
end Go.Proofs.YtnccaidlcaeeaaaGreatDoor
namespace Go.Proofs.YtnccaidlcaeeaaaGreatDoor
open Go Go.RowKit Go.Maps

def upTo (f : Nat → Nat) : Nat → Nat
  | 0 => 0
  | i + 1 => upTo f i + f i
theorem upTo_mono (f : Nat → Nat) {a b : Nat} (h : a ≤ b) : upTo f a ≤ upTo f b := by
  induction b with
  | zero => have : a = 0 := by omega
            rw [this]; exact Nat.le_refl _
  | succ b ih =>
    by_cases e : a = b + 1
    · rw [e]; exact Nat.le_refl _
    · have := ih (by omega); show upTo f a ≤ upTo f b + f b; omega
def nameLen (ns : List ByteArray) (i : Nat) : Nat := (qT (nth ns i)).length + 1

set_option maxHeartbeats 1000000 in
theorem nest_ss (kd x : Int) (s : ByteArray) (gn N : Nat) (c1 : Nat) (g M : Nat) (c2 : Nat) (ns : List ByteArray) (f : Nat → Nat) (w : World) (hgn : gn < w.heap.size) (hN : N ≤ 65536) (hnb : upTo (nameLen ns) N ≤ 1000000000000) (hNc : Hid (∀ i, i < N → w.cell? ⟨gn, i, none⟩ = some (.string (nth ns i)) ∧ okT (nth ns i))) (hg : g < w.heap.size) (hM : M ≤ 65536) (hfb : upTo f M ≤ 1000000000000) (hIt : Hid (ItemsGood 30 #[] (fun i => .int .i64 (f i)) w g M)) :
    Calls Tryz.prog 46 #[.agg #[.int .i64 kd, .int .i64 x, .string s, .slice (some ⟨gn, 0, none⟩) N c1, .slice (some ⟨g, 0, none⟩) M c2]] w fun e w' => e = .returned (.int .i64 ((2 + (M - 1) + upTo (nameLen ns) N + upTo f M : Nat) : Int)) ∧ Below w.heap.size w w' := by
  have HB0 : Hid (Below (w.heap.size + 1) (w.alloc (.cells #[.int .i64 kd, .int .i64 x, .string s, .slice (some ⟨gn, 0, none⟩) N c1, .slice (some ⟨g, 0, none⟩) M c2] 25)) (w.alloc (.cells #[.int .i64 kd, .int .i64 x, .string s, .slice (some ⟨gn, 0, none⟩) N c1, .slice (some ⟨g, 0, none⟩) M c2] 25))) := Below.refl _ _
  go_enter Tryz.func46, Tryz.ntmps46
  go_wp2_with fail
  go_loopw [3, 18] (fun m i wr => ∃ q : Nat, q ≤ N ∧ i = .int .i64 q ∧ m = .int .i64 ((2 + (M - 1) + upTo (nameLen ns) q : Nat) : Int) ∧ Below (w.heap.size + 1) (w.alloc (.cells #[.int .i64 kd, .int .i64 x, .string s, .slice (some ⟨gn, 0, none⟩) N c1, .slice (some ⟨g, 0, none⟩) M c2] 25)) wr) (fun _ i wr => N - (intOf i).toNat)
  case atStart => exact ⟨0, Nat.zero_le _, rfl, congrArg (Value.int .i64) (by simp only [upTo]; omega), HB0.out⟩
  case round =>
    obtain ⟨q, hq, rfl, rfl, hbx⟩ := hrel
    have hbw := below_box hbx
    by_cases hlt : q < N
    · obtain ⟨hc, ho⟩ := hNc.out q hlt
      have nc : wr.cell? ⟨gn, q, none⟩ = some (.string (nth ns q)) := (World.cell?_of_block (w := w) (a := ⟨gn, q, none⟩) (hbw.block gn hgn)).trans hc
      have hstep : upTo (nameLen ns) (q + 1) = upTo (nameLen ns) q + ((qT (nth ns q)).length + 1) := rfl
      have hle : upTo (nameLen ns) (q + 1) ≤ upTo (nameLen ns) N := upTo_mono _ (by omega)
      have b1 : ((2 + (M - 1) + upTo (nameLen ns) q : Nat) : Int) ≤ 2000000000000 := by omega
      have b2 : ((qT (nth ns q)).length : Int) ≤ 400000 := by have := ho.1; have := qT_len (nth ns q); omega
      have b4 : (0 : Int) ≤ ((qT (nth ns q)).length : Int) := by omega
      have b3 : (0 : Int) ≤ ((2 + (M - 1) + upTo (nameLen ns) q : Nat) : Int) := by omega
      have HE : Hid (((2 + (M - 1) + upTo (nameLen ns) q : Nat) : Int) + (((qT (nth ns q)).length : Int) + 1) = ((2 + (M - 1) + upTo (nameLen ns) (q + 1) : Nat) : Int)) := by unfold Hid; omega
      have i1 : (q : Int) < (N : Int) := by omega
      have hsz := hbx.size
      rw [World.size_alloc] at hsz
      clear hstep hle hc
      generalize nth ns q = nm at *
      generalize hT : (2 + (M - 1) + upTo (nameLen ns) q : Nat) = tt at *
      have HT := hT
      clear HT hT
      go_wp2_with fail
      refine (qlen_any nm ho wr).mono ?_
      rintro e w2 ⟨rfl, hb2⟩
      have hbx2 := hbx.trans (hb2.mono hsz)
      clear hb2 nc
      go_wp2_with fail
      go_roundw
      case rel => exact ⟨q + 1, by omega, by go_num, congrArg (Value.int .i64) HE.out, hbx2⟩
      case measure => simp [intOf]; omega
    · have hqe : q = N := by omega
      subst hqe
      clear hlt hq
      have y4 : wr.cell? ⟨w.heap.size, 4, none⟩ = some (.slice (some ⟨g, 0, none⟩) M c2) := box_cells hbx 4
      go_wp2_with fail
      clear y4
      go_loopw [3, 31] (fun m i wr => ∃ p : Nat, p ≤ M ∧ i = .int .i64 p ∧ m = .int .i64 ((2 + (M - 1) + upTo (nameLen ns) q + upTo f p : Nat) : Int) ∧ Below w.heap.size w wr) (fun _ i wr => M - (intOf i).toNat)
      case atStart => exact ⟨0, Nat.zero_le _, rfl, congrArg (Value.int .i64) (by simp only [upTo]; omega), below_box hbx⟩
      case round =>
        obtain ⟨p, hp, rfl, rfl, hbw⟩ := hrel
        by_cases hlt : p < M
        · obtain ⟨kd2, x2, s2, a12, l12, c12, a22, l22, c22, hia, hcall⟩ := hIt.out p hlt
          obtain ⟨z0, z1, z2, z3, z4⟩ := hia.keep (hbw.block g hg)
          have HC : Hid (∀ w', Below w.heap.size w w' → Calls Tryz.prog 30 (#[.agg #[.int .i64 kd2, .int .i64 x2, .string s2, .slice a12 l12 c12, .slice a22 l22 c22]] ++ #[]) w' fun e w'' => e = .returned (.int .i64 (f p)) ∧ Below w'.heap.size w' w'') := hcall
          have hle : upTo f (p + 1) ≤ upTo f M := upTo_mono _ (by omega)
          have hstep : upTo f (p + 1) = upTo f p + f p := rfl
          have b1 : ((2 + (M - 1) + upTo (nameLen ns) q + upTo f p : Nat) : Int) ≤ 3000000000000 := by omega
          have b2 : ((f p : Nat) : Int) ≤ 1000000000000 := by omega
          have b3 : (0 : Int) ≤ ((2 + (M - 1) + upTo (nameLen ns) q + upTo f p : Nat) : Int) := by omega
          have b4 : (0 : Int) ≤ ((f p : Nat) : Int) := by omega
          have HE : Hid (((2 + (M - 1) + upTo (nameLen ns) q + upTo f p : Nat) : Int) + ((f p : Nat) : Int) = ((2 + (M - 1) + upTo (nameLen ns) q + upTo f (p + 1) : Nat) : Int)) := by unfold Hid; omega
          have i1 : (p : Int) < (M : Int) := by omega
          have hsz := hbw.size
          clear hstep hle hcall hia
          generalize (2 + (M - 1) + upTo (nameLen ns) q + upTo f p : Nat) = tt at *
          generalize f p = fp at *
          go_wp2_with fail
          refine (HC.out _ (hbw.alloc hsz _)).mono ?_
          rintro e w3 ⟨rfl, hb3⟩
          have hbw3 : Below w.heap.size w w3 := (hbw.alloc hsz _).trans (hb3.mono (by simp; omega))
          clear hb3 HC z0 z1 z2 z3 z4
          go_wp2_with fail
          go_roundw
          case rel => exact ⟨p + 1, by omega, by go_num, congrArg (Value.int .i64) HE.out, hbw3⟩
          case measure => simp [intOf]; omega
        · have hpe : p = M := by omega
          subst hpe
          clear hlt hp
          go_wp2_with fail
          go_ret
          exact ⟨rfl, hbw⟩

set_option maxHeartbeats 1000000 in
theorem nest_ns (kd x : Int) (s : ByteArray) (a1 : Option Addr) (c1 : Nat) (g M : Nat) (c2 : Nat) (ns : List ByteArray) (f : Nat → Nat) (w : World) (hg : g < w.heap.size) (hM : M ≤ 65536) (hfb : upTo f M ≤ 1000000000000) (hIt : Hid (ItemsGood 30 #[] (fun i => .int .i64 (f i)) w g M)) :
    Calls Tryz.prog 46 #[.agg #[.int .i64 kd, .int .i64 x, .string s, .slice a1 0 c1, .slice (some ⟨g, 0, none⟩) M c2]] w fun e w' => e = .returned (.int .i64 ((2 + (M - 1) + upTo (nameLen ns) 0 + upTo f M : Nat) : Int)) ∧ Below w.heap.size w w' := by
  have HB0 : Hid (Below (w.heap.size + 1) (w.alloc (.cells #[.int .i64 kd, .int .i64 x, .string s, .slice a1 0 c1, .slice (some ⟨g, 0, none⟩) M c2] 25)) (w.alloc (.cells #[.int .i64 kd, .int .i64 x, .string s, .slice a1 0 c1, .slice (some ⟨g, 0, none⟩) M c2] 25))) := Below.refl _ _
  go_enter Tryz.func46, Tryz.ntmps46
  go_wp2_with fail
  refine wp_loop_rounds 1 ?_
  rw [rounds_succ]
  have hbx := HB0.out
  have y4 : (w.alloc (.cells #[.int .i64 kd, .int .i64 x, .string s, .slice a1 0 c1, .slice (some ⟨g, 0, none⟩) M c2] 25)).cell? ⟨w.heap.size, 4, none⟩ = some (.slice (some ⟨g, 0, none⟩) M c2) := box_cells hbx 4
  go_wp2_with fail
  clear y4
  go_loopw [3, 31] (fun m i wr => ∃ p : Nat, p ≤ M ∧ i = .int .i64 p ∧ m = .int .i64 ((2 + (M - 1) + upTo (nameLen ns) 0 + upTo f p : Nat) : Int) ∧ Below w.heap.size w wr) (fun _ i wr => M - (intOf i).toNat)
  case atStart => exact ⟨0, Nat.zero_le _, rfl, congrArg (Value.int .i64) (by simp only [upTo]; omega), below_box hbx⟩
  case round =>
    obtain ⟨p, hp, rfl, rfl, hbw⟩ := hrel
    by_cases hlt : p < M
    · obtain ⟨kd2, x2, s2, a12, l12, c12, a22, l22, c22, hia, hcall⟩ := hIt.out p hlt
      obtain ⟨z0, z1, z2, z3, z4⟩ := hia.keep (hbw.block g hg)
      have HC : Hid (∀ w', Below w.heap.size w w' → Calls Tryz.prog 30 (#[.agg #[.int .i64 kd2, .int .i64 x2, .string s2, .slice a12 l12 c12, .slice a22 l22 c22]] ++ #[]) w' fun e w'' => e = .returned (.int .i64 (f p)) ∧ Below w'.heap.size w' w'') := hcall
      have hle : upTo f (p + 1) ≤ upTo f M := upTo_mono _ (by omega)
      have hstep : upTo f (p + 1) = upTo f p + f p := rfl
      have b1 : ((2 + (M - 1) + upTo (nameLen ns) 0 + upTo f p : Nat) : Int) ≤ 3000000000000 := by simp only [upTo]; omega
      have b2 : ((f p : Nat) : Int) ≤ 1000000000000 := by omega
      have b3 : (0 : Int) ≤ ((2 + (M - 1) + upTo (nameLen ns) 0 + upTo f p : Nat) : Int) := by omega
      have b4 : (0 : Int) ≤ ((f p : Nat) : Int) := by omega
      have HE : Hid (((2 + (M - 1) + upTo (nameLen ns) 0 + upTo f p : Nat) : Int) + ((f p : Nat) : Int) = ((2 + (M - 1) + upTo (nameLen ns) 0 + upTo f (p + 1) : Nat) : Int)) := by unfold Hid; omega
      have i1 : (p : Int) < (M : Int) := by omega
      have hsz := hbw.size
      clear hstep hle hcall hia
      generalize (2 + (M - 1) + upTo (nameLen ns) 0 + upTo f p : Nat) = tt at *
      generalize f p = fp at *
      go_wp2_with fail
      refine (HC.out _ (hbw.alloc hsz _)).mono ?_
      rintro e w3 ⟨rfl, hb3⟩
      have hbw3 : Below w.heap.size w w3 := (hbw.alloc hsz _).trans (hb3.mono (by simp; omega))
      clear hb3 HC z0 z1 z2 z3 z4
      go_wp2_with fail
      go_roundw
      case rel => exact ⟨p + 1, by omega, by go_num, congrArg (Value.int .i64) HE.out, hbw3⟩
      case measure => simp [intOf]; omega
    · have hpe : p = M := by omega
      subst hpe
      clear hlt hp
      go_wp2_with fail
      go_ret
      exact ⟨rfl, hbw⟩

set_option maxHeartbeats 1000000 in
theorem nest_nn (kd x : Int) (s : ByteArray) (a1 : Option Addr) (c1 : Nat) (a2 : Option Addr) (c2 : Nat) (ns : List ByteArray) (f : Nat → Nat) (w : World) :
    Calls Tryz.prog 46 #[.agg #[.int .i64 kd, .int .i64 x, .string s, .slice a1 0 c1, .slice a2 0 c2]] w fun e w' => e = .returned (.int .i64 ((2 + (0 - 1) + upTo (nameLen ns) 0 + upTo f 0 : Nat) : Int)) ∧ Below w.heap.size w w' := by
  have HB0 : Hid (Below (w.heap.size + 1) (w.alloc (.cells #[.int .i64 kd, .int .i64 x, .string s, .slice a1 0 c1, .slice a2 0 c2] 25)) (w.alloc (.cells #[.int .i64 kd, .int .i64 x, .string s, .slice a1 0 c1, .slice a2 0 c2] 25))) := Below.refl _ _
  go_enter Tryz.func46, Tryz.ntmps46
  go_wp2_with fail
  refine wp_loop_rounds 1 ?_
  rw [rounds_succ]
  have hbx := HB0.out
  have y4 : (w.alloc (.cells #[.int .i64 kd, .int .i64 x, .string s, .slice a1 0 c1, .slice a2 0 c2] 25)).cell? ⟨w.heap.size, 4, none⟩ = some (.slice a2 0 c2) := box_cells hbx 4
  go_wp2_with fail
  refine wp_loop_rounds 1 ?_
  rw [rounds_succ]
  go_wp2_with fail
  go_ret
  exact ⟨ret_int (by simp only [upTo]; omega), below_box hbx⟩
end Go.Proofs.YtnccaidlcaeeaaaGreatDoor
namespace Go.Proofs.YtnccaidlcaeeaaaGreatDoor
open Go Go.RowKit Go.Maps

theorem EnvP.below {w w1 : World} {B : Nat} (h : EnvP w) (hb : Below B w w1) (h8 : 8 ≤ B) : EnvP w1 :=
  ⟨utf_below h.utf hb h8, tab_below h.tab hb h8, by have := hb.size; have := h.big; omega⟩
mutual
def lenJ : J → Nat
  | .null => 4
  | .fls => 5
  | .tru => 4
  | .int x => (Lib.itoa x).length
  | .text s => (qT s).length
  | .list l => 2 + (l.length - 1) + lenL l
  | .obj ns l => 2 + (l.length - 1) + upTo (nameLen ns) ns.length + lenL l
def lenL : List J → Nat
  | [] => 0
  | j :: js => lenJ j + lenL js
end
mutual
/-- A value that Print takes, but for its depth and its names. -/
def smJ : J → Prop
  | .int x => -9223372036854775808 ≤ x ∧ x ≤ 9223372036854775807
  | .text s => okT s
  | .list l => l.length ≤ 65536 ∧ smL l
  | .obj ns l => l.length ≤ 65536 ∧ (∀ i, i < ns.length → okT (nth ns i)) ∧ smL l
  | _ => True
def smL : List J → Prop
  | [] => True
  | j :: js => smJ j ∧ smL js
end
theorem smL.get : (l : List J) → smL l → ∀ j ∈ l, smJ j
  | [], _, j, h => absurd h (by simp)
  | i :: js, h, j, hj => by
    unfold smL at h
    rcases List.mem_cons.1 hj with rfl | hj
    · exact h.1
    · exact smL.get js h.2 j hj
def jth (l : List J) (i : Nat) : J := l.getD i .null
theorem jth_eq (l : List J) (i : Nat) (h : i < l.length) : jth l i = l[i] := by
  unfold jth; rw [List.getD_eq_getElem?_getD, List.getElem?_eq_getElem h]; rfl
theorem upTo_shift (f : Nat → Nat) (n : Nat) : upTo f (n + 1) = f 0 + upTo (fun i => f (i + 1)) n := by
  induction n with
  | zero => simp [upTo]
  | succ n ih => rw [show upTo f (n + 1 + 1) = upTo f (n + 1) + f (n + 1) from rfl, ih]; simp only [upTo]; omega
theorem lenL_upTo : (l : List J) → lenL l = upTo (fun i => lenJ (jth l i)) l.length
  | [] => rfl
  | j :: js => by
    rw [List.length_cons, upTo_shift]
    unfold lenL
    rw [lenL_upTo js]
    rfl
theorem lenL_mem {l : List J} {j : J} (h : j ∈ l) : lenJ j ≤ lenL l := by
  induction l with
  | nil => cases h
  | cons i js ih =>
    unfold lenL
    rcases List.mem_cons.1 h with rfl | h
    · omega
    · have := ih h; omega

set_option maxHeartbeats 1000000 in
theorem len_flat (k : Int) (T : ByteArray) (hk : k = 0 ∨ k = 1 ∨ k = 2) (hT : ∀ w, Calls Tryz.prog 47 #[.int .i64 k] w fun e w' => e = .returned (.string T) ∧ w' = w) (x : Int) (s : ByteArray) (v3 v4 : Value) (h3 : v3 = .slice none 0 0) (h4 : v4 = .slice none 0 0) (w : World) :
    Calls Tryz.prog 30 #[.agg #[.int .i64 k, .int .i64 x, .string s, v3, v4]] w fun e w' => e = .returned (.int .i64 (T.size : Int)) ∧ Below w.heap.size w w' := by
  have hB : ∀ o, Below w.heap.size w (w.alloc o) := fun o => (Below.refl _ _).alloc (Nat.le_refl _) _
  subst h3 h4
  rcases hk with rfl | rfl | rfl
  all_goals
    go_enter Tryz.func30, Tryz.ntmps30
    go_wp2_with fail
    refine (hT _).mono ?_
    rintro e w1 ⟨rfl, rfl⟩
    go_wp2_with fail
    go_ret
    exact ⟨rfl, hB _⟩
set_option maxHeartbeats 1000000 in
theorem len_int (x : Int) (h0 : -9223372036854775808 ≤ x) (h1 : x ≤ 9223372036854775807) (s : ByteArray) (w : World) (hE : EnvP w) :
    Calls Tryz.prog 30 #[.agg #[.int .i64 3, .int .i64 x, .string s, .slice none 0 0, .slice none 0 0]] w fun e w' => e = .returned (.int .i64 ((Lib.itoa x).length : Int)) ∧ Below w.heap.size w w' := by
  have hB : ∀ o, Below w.heap.size w (w.alloc o) := fun o => (Below.refl _ _).alloc (Nat.le_refl _) _
  have hT : ∀ o, Lib.TabIs Tryz.prog (w.alloc o) "internal/strconv.uint64pow10" .u64 Lib.pow10Tab := fun o => tab_below hE.tab (hB o) hE.big
  go_enter Tryz.func30, Tryz.ntmps30
  go_wp2_with fail
  refine (fmt_any x h0 h1 _ (hT _)).mono ?_
  rintro e w1 ⟨rfl, hb1⟩
  have hbw : Below w.heap.size w w1 := (hB _).trans (hb1.mono (by simp))
  clear hb1
  go_wp2_with fail
  go_ret
  exact ⟨rfl, hbw⟩
set_option maxHeartbeats 1000000 in
theorem len_text (x : Int) (s : ByteArray) (hs : okT s) (w : World) :
    Calls Tryz.prog 30 #[.agg #[.int .i64 4, .int .i64 x, .string s, .slice none 0 0, .slice none 0 0]] w fun e w' => e = .returned (.int .i64 ((qT s).length : Int)) ∧ Below w.heap.size w w' := by
  have hB : ∀ o, Below w.heap.size w (w.alloc o) := fun o => (Below.refl _ _).alloc (Nat.le_refl _) _
  go_enter Tryz.func30, Tryz.ntmps30
  go_wp2_with fail
  refine (qlen_any s hs _).mono ?_
  rintro e w1 ⟨rfl, hb1⟩
  have hbw : Below w.heap.size w w1 := (hB _).trans (hb1.mono (by simp))
  clear hb1
  go_wp2_with fail
  go_ret
  exact ⟨rfl, hbw⟩
set_option maxHeartbeats 1000000 in
theorem len_nest (k : Int) (hk : k = 5 ∨ k = 6) (x : Int) (s : ByteArray) (a1 : Option Addr) (l1 c1 : Nat) (a2 : Option Addr) (l2 c2 : Nat) (n : Nat) (w : World)
    (hN : Hid (∀ w', Below w.heap.size w w' → Calls Tryz.prog 46 #[.agg #[.int .i64 k, .int .i64 x, .string s, .slice a1 l1 c1, .slice a2 l2 c2]] w' fun e w'' => e = .returned (.int .i64 (n : Int)) ∧ Below w'.heap.size w' w'')) :
    Calls Tryz.prog 30 #[.agg #[.int .i64 k, .int .i64 x, .string s, .slice a1 l1 c1, .slice a2 l2 c2]] w fun e w' => e = .returned (.int .i64 (n : Int)) ∧ Below w.heap.size w w' := by
  have hB : ∀ o, Below w.heap.size w (w.alloc o) := fun o => (Below.refl _ _).alloc (Nat.le_refl _) _
  rcases hk with rfl | rfl
  all_goals
    go_enter Tryz.func30, Tryz.ntmps30
    go_wp2_with fail
    refine (hN.out _ (hB _)).mono ?_
    rintro e w1 ⟨rfl, hb1⟩
    have hbw : Below w.heap.size w w1 := (hB _).trans (hb1.mono (by simp))
    clear hb1
    go_wp2_with fail
    go_ret
    exact ⟨rfl, hbw⟩

def LenOk (j : J) : Prop := ∀ (lo hi : Nat) (w : World) (kd x : Int) (s : ByteArray) (a1 : Option Addr) (l1 c1 : Nat) (a2 : Option Addr) (l2 c2 : Nat), Rep w lo hi j (five kd x s (.slice a1 l1 c1) (.slice a2 l2 c2)) → hi ≤ w.heap.size → smJ j → lenJ j ≤ 1000000000 → EnvP w →
  Calls Tryz.prog 30 #[.agg #[.int .i64 kd, .int .i64 x, .string s, .slice a1 l1 c1, .slice a2 l2 c2]] w fun e w' => e = .returned (.int .i64 (lenJ j : Int)) ∧ Below w.heap.size w w'
theorem items_len {w : World} {lo hi lo0 g cap : Nat} {obs : List Nat} {l : List J} {xs : List Value} (hown : w.ownsRow lo0 25 5 (.slice (some ⟨g, 0, none⟩) l.length cap) l.length xs) (hrep : RepL w lo hi obs l xs) (hhi : hi ≤ w.heap.size) (hsm : smL l) (hlen : lenL l ≤ 1000000000) (hE : EnvP w) (hIH : ∀ j ∈ l, LenOk j) :
    ItemsGood 30 #[] (fun i => .int .i64 (lenJ (jth l i) : Nat)) w g l.length := by
  intro i hi'
  obtain ⟨lo', hi2, e1, e2, e3, e4⟩ := RepL.get l xs hrep i hi'
  obtain ⟨kd, x, s, a1, l1, c1, a2, l2, c2, hf⟩ := e4.form
  refine ⟨kd, x, s, a1, l1, c1, a2, l2, c2, item_at hown hi' hf, fun w' hb => ?_⟩
  rw [hf] at e4
  have hr' := Rep.keep l[i] _ e4 (w' := w') (fun k ka kb => hb.block k (by omega))
  have hm := List.getElem_mem hi'
  have := hIH l[i] hm lo' hi2 w' kd x s a1 l1 c1 a2 l2 c2 hr' (by have := hb.size; omega) (smL.get l hsm _ hm) (by have := lenL_mem hm; omega) (hE.below hb hE.big)
  show Calls Tryz.prog 30 _ w' fun e w'' => e = Ending.returned (Value.int IntKind.i64 ((lenJ (jth l i) : Nat) : Int)) ∧ Below w'.heap.size w' w''
  rw [jth_eq l i hi']
  exact this
theorem lenJ_list (l : List J) : lenJ (.list l) = 2 + (l.length - 1) + upTo (nameLen []) 0 + upTo (fun i => lenJ (jth l i)) l.length := by
  rw [← lenL_upTo]
  have : lenJ (.list l) = 2 + (l.length - 1) + lenL l := by rw [lenJ]
  rw [this]; rfl
theorem lenJ_obj (ns : List ByteArray) (l : List J) : lenJ (.obj ns l) = 2 + (l.length - 1) + upTo (nameLen ns) ns.length + upTo (fun i => lenJ (jth l i)) l.length := by
  rw [← lenL_upTo]
  rw [lenJ]
theorem len_all : (j : J) → LenOk j
  | .null => fun lo hi w kd x s a1 l1 c1 a2 l2 c2 hr hh hsm hln hE => by
    obtain ⟨rfl, rfl, rfl, e1, e2⟩ := five_inj (show five kd x s _ _ = five 0 0 noS nilS nilS from hr)
    exact len_flat 0 ⟨#[110, 117, 108, 108]⟩ (by decide) const_null 0 noS _ _ e1 e2 w
  | .fls => fun lo hi w kd x s a1 l1 c1 a2 l2 c2 hr hh hsm hln hE => by
    obtain ⟨rfl, rfl, rfl, e1, e2⟩ := five_inj (show five kd x s _ _ = five 1 0 noS nilS nilS from hr)
    exact len_flat 1 ⟨#[102, 97, 108, 115, 101]⟩ (by decide) const_false 0 noS _ _ e1 e2 w
  | .tru => fun lo hi w kd x s a1 l1 c1 a2 l2 c2 hr hh hsm hln hE => by
    obtain ⟨rfl, rfl, rfl, e1, e2⟩ := five_inj (show five kd x s _ _ = five 2 0 noS nilS nilS from hr)
    exact len_flat 2 ⟨#[116, 114, 117, 101]⟩ (by decide) const_true 0 noS _ _ e1 e2 w
  | .int y => fun lo hi w kd x s a1 l1 c1 a2 l2 c2 hr hh hsm hln hE => by
    obtain ⟨rfl, rfl, rfl, e1, e2⟩ := five_inj (show five kd x s _ _ = five 3 y noS nilS nilS from hr)
    rw [e1, e2]
    have hsm' : -9223372036854775808 ≤ x ∧ x ≤ 9223372036854775807 := hsm
    exact len_int x hsm'.1 hsm'.2 noS w hE
  | .text t => fun lo hi w kd x s a1 l1 c1 a2 l2 c2 hr hh hsm hln hE => by
    obtain ⟨rfl, rfl, rfl, e1, e2⟩ := five_inj (show five kd x s _ _ = five 4 0 t nilS nilS from hr)
    rw [e1, e2]
    exact len_text 0 s hsm w
  | .list l => fun lo hi w kd x s a1 l1 c1 a2 l2 c2 hr hh hsm hln hE => by
    unfold Rep at hr
    obtain ⟨it, xs, h1, h2, h3, h4⟩ := hr
    obtain ⟨rfl, rfl, rfl, e1, rfl⟩ := five_inj h1
    simp only [nilS, Value.slice.injEq] at e1
    obtain ⟨rfl, rfl, rfl⟩ := e1
    unfold smJ at hsm
    obtain ⟨rfl, hn⟩ := own_form h2
    have hIH : ∀ j ∈ l, LenOk j := fun j hj => len_all j
    have hll : lenL l ≤ 1000000000 := by rw [lenJ_list, ← lenL_upTo] at hln; omega
    refine len_nest 5 (Or.inl rfl) 0 noS none 0 0 a2 l.length c2 (lenJ (.list l)) w (fun w' hb => ?_)
    rw [lenJ_list]
    rcases hn with h0 | ⟨g, rfl, hg⟩
    · rw [h0]; exact nest_nn 5 0 noS none 0 a2 c2 [] _ w'
    · have hs := hb.size
      exact nest_ns 5 0 noS none 0 g l.length c2 [] _ w' (by omega) hsm.1 (by rw [← lenL_upTo]; omega) (items_len (own_below h2 hb) (RepL.keep _ _ h4 (fun k ka kb => hb.block k (by omega))) (by omega) hsm.2 hll (hE.below hb hE.big) hIH)
  | .obj ns l => fun lo hi w kd x s a1 l1 c1 a2 l2 c2 hr hh hsm hln hE => by
    unfold Rep at hr
    obtain ⟨nm, it, xs, h1, hnm, hnb, h2, h3, heq, h4⟩ := hr
    obtain ⟨rfl, rfl, rfl, rfl, rfl⟩ := five_inj h1
    unfold smJ at hsm
    obtain ⟨rfl, hn⟩ := own_form h2
    obtain ⟨rfl, hn'⟩ := own_form hnm
    have hIH : ∀ j ∈ l, LenOk j := fun j hj => len_all j
    have hll : lenL l ≤ 1000000000 ∧ upTo (nameLen ns) ns.length ≤ 1000000000 := by rw [lenJ_obj, ← lenL_upTo] at hln; omega
    refine len_nest 6 (Or.inr rfl) 0 noS a1 ns.length c1 a2 l.length c2 (lenJ (.obj ns l)) w (fun w' hb => ?_)
    rw [lenJ_obj]
    rcases hn with h0 | ⟨g, rfl, hg⟩
    · have h0' : ns.length = 0 := by omega
      rw [h0, h0']; exact nest_nn 6 0 noS a1 c1 a2 c2 ns _ w'
    · rcases hn' with h0 | ⟨gn, rfl, hgn⟩
      · have h0' : l.length = 0 := by omega
        rw [h0, h0']; exact nest_nn 6 0 noS a1 c1 (some ⟨g, 0, none⟩) c2 ns _ w'
      · have hs := hb.size
        have hnm' := own_below hnm hb
        exact nest_ss 6 0 noS gn ns.length c1 g l.length c2 ns _ w' (by omega) (by omega) (by omega) (fun i hi => ⟨names_cells hnm' i hi, hsm.2.1 i hi⟩) (by omega) hsm.1 (by rw [← lenL_upTo]; omega) (items_len (own_below h2 hb) (RepL.keep _ _ h4 (fun k ka kb => hb.block k (by omega))) (by omega) hsm.2.2 hll.1 (hE.below hb hE.big) hIH)
end Go.Proofs.YtnccaidlcaeeaaaGreatDoor
