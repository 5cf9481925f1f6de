import Derived.Test.YtbcfkajcmbckbaaGreatDoorKC
import Derived.Lib.RuneCountTail
import Derived.Lib.RuneBytes
import Derived.Deep.RegionHeld3
/-! schema: how many characters a text has. -/
namespace Go.Proofs.YtbcfkajcmbckbaaGreatDoor
open Go Go.RowKit

theorem count_step (s : ByteArray) (pos : Nat) (h : pos < s.size) : Lib.runeCountFrom s (s.size - pos) pos = 1 + Lib.runeCountFrom s (s.size - (pos + (Utf8.decode s pos).2)) (pos + (Utf8.decode s pos).2) := by
  have e : s.size - pos = (s.size - pos - 1) + 1 := by omega
  rw [e, Lib.runeCountFrom, if_pos h]
  congr 1
  have hw := Lib.decode_width_pos s pos h
  exact Lib.fuel_enough s _ _ _ (by omega) (by omega)
set_option maxHeartbeats 1000000 in
set_option maxRecDepth 100000 in
theorem runes_any (s : ByteArray) (hs : s.size ≤ 140737488351232) (w : World) : Calls Tryz.prog 135 #[.string s] w fun e w' => e = .returned (.int .i64 (Lib.runeCount s : Int)) ∧ Below w.heap.size w w' := by
  obtain ⟨R, hR⟩ : ∃ R : Int, Hid ((Lib.runeCount s : Int) = R) := ⟨_, rfl⟩
  rw [hR.out]
  have h0 : Hid ((0 : Int) + (Lib.runeCountFrom s (s.size - 0) 0 : Int) = R) := by rw [Hid, ← hR.out]; unfold Lib.runeCount; simp
  go_enter Tryz.func135, Tryz.ntmps135
  go_wp2
  go_loopw [2] (fun m wr => ∃ (z : Int) (pos : Nat), m = .int .i64 z ∧ 0 ≤ z ∧ z ≤ pos ∧ Hid (z + (Lib.runeCountFrom s (s.size - pos) pos : Int) = R) ∧ wr.heap[w.heap.size]? = some (.stringIter s pos) ∧ Below w.heap.size w wr ) (fun _ wr => s.size - wr.iterPos w.heap.size)
  case atStart => exact ⟨0, 0, rfl, by omega, by omega, h0, heap_alloc_new w _, (Below.refl _ _).alloc (Nat.le_refl _) _⟩
  case round =>
    obtain ⟨z, pos, rfl, hz0, hz1, HZ, hit, hbw⟩ := hrel
    by_cases hp : pos < s.size
    · have hk := Lib.decode_width_pos s pos hp
      have hstep := hid_of (count_step s pos hp)
      have hnx : ∀ ty, (Instr.next (.pointer (some ⟨w.heap.size, 0, none⟩)) true ty).run Tryz.prog wr = .ok (.tuple #[.bool true, .int .i64 pos, .int .i32 ((Utf8.decode s pos).1 : Int)]) (wr.iterAt w.heap.size s (pos + (Utf8.decode s pos).2)) := fun ty => Lib.run_next_any_at wr w.heap.size _ pos ty hit hp
      have HIT : Hid (wr.iterPos w.heap.size = pos) := by simp [Hid, World.iterPos, hit]
      generalize (Utf8.decode s pos).1 = c at *
      generalize (Utf8.decode s pos).2 = k at *
      have hit2 := hid_of (Lib.iterAt_heap wr w.heap.size _ pos (pos + k) hit)
      have hbw2 := hid_of (Lib.below_iterAt hbw (Nat.le_refl _) s (pos + k))
      clear hit
      generalize wr.iterAt w.heap.size s (pos + k) = wx at *
      have hzb : z ≤ 140737488351232 := by omega
      go_wp2_with fail
      go_roundw
      case rel =>
        refine ⟨_, pos + k, rfl, by omega, by omega, ?_, hit2.out, hbw2.out⟩
        have h1 := HZ.out
        have h2 := hstep.out
        rw [Hid]
        omega
      case measure =>
        have h2 : wx.iterPos w.heap.size = pos + k := by unfold World.iterPos; rw [hit2.out]
        have h1 := HIT.out
        omega
    · have hnx : ∀ ty, (Instr.next (.pointer (some ⟨w.heap.size, 0, none⟩)) true ty).run Tryz.prog wr = .ok (.tuple #[.bool false]) wr := fun ty => Lib.run_next_end_at wr w.heap.size _ pos ty hit (by omega)
      have hfin : Hid (R = z) := by
        have h1 := HZ.out
        rw [Lib.runeCountFrom_end s _ pos hp] at h1
        rw [Hid]; omega
      go_wp2_with fail
      go_ret
      exact ⟨by rw [hfin.out]; rfl, hbw⟩
set_option maxHeartbeats 1000000 in
set_option maxRecDepth 100000 in
theorem count_chars (u : V5) (hs : u.s.size ≤ 140737488351232) (w : World) : Calls Tryz.prog 90 #[.agg #[], u.v] w fun e w' => e = .returned (.tuple #[.int .i64 (Lib.runeCount u.s : Int), .bool (u.k == 4)]) ∧ Below w.heap.size w w' := by
  have hb := hid_of (below_drew (((Below.refl _ w).alloc (Nat.le_refl _) (.cells #[] 80)).alloc (by simp) (u.obj 25)))
  have n0 := new2 w (.cells #[] 80) (u.obj 25)
  have hr := fun W => hid_of (runes_any u.s hs W)
  obtain ⟨R, hR⟩ : ∃ R : Int, Hid ((Lib.runeCount u.s : Int) = R) := ⟨_, rfl⟩
  simp only [hR.out] at hr ⊢
  unfold V5.obj at *
  unfold V5.v
  obtain ⟨y0, y1, y2, y3, y4, -⟩ := row_cells (w := ((w.alloc (.cells #[] 80)).alloc (.cells #[.int .i64 u.k, .int .i64 u.x, .string u.s, .slice u.an u.ln u.cn, .slice u.ai u.li u.ci] 25)).drew) n0
  clear n0
  go_enter Tryz.func90, Tryz.ntmps90
  go_upto_region 1 with fail
  go_region_held3 (fun V => V.cell? ⟨w.heap.size + 1, 0, none⟩ = some (.int .i64 u.k) ∧ V.cell? ⟨w.heap.size + 1, 2, none⟩ = some (.string u.s)) (go_keep) (first
    | (go_at_call 135; refine (hr _).out.mono ?_; rintro e W3 ⟨rfl, hb3⟩; have j0 := stay hb3 y0; have j2 := stay hb3 y2; have hB4 := hid_of (hb.out.trans (hb3.mono hb.out.size)); clear hb3 y0 y1 y2 y3 y4))
  all_goals
    clear hr
    go_wp2_with fail
    go_ret2
    exact ⟨rfl, hB4.out⟩
end Go.Proofs.YtbcfkajcmbckbaaGreatDoor
