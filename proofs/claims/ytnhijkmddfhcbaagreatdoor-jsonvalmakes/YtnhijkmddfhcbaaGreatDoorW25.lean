import Derived.Test.YtnhijkmddfhcbaaGreatDoorW24
namespace Go.Proofs.YtnhijkmddfhcbaaGreatDoor
open Go Go.RowKit Go.Maps

theorem check_top (j : J) (lo hi : Nat) (w : World) (kd x : Int) (s : ByteArray) (a1 : Option Addr) (l1 c1 : Nat) (a2 : Option Addr) (l2 c2 : Nat) (hr : Rep w lo hi j (five kd x s (.slice a1 l1 c1) (.slice a2 l2 c2))) (hh : hi ≤ w.heap.size) (hok : okJ 0 j) (hU : Lib.Utf8Tabs 1 2 w) (h8 : 8 ≤ w.heap.size) :
    Calls Tryz.prog 21 #[.agg #[.int .i64 kd, .int .i64 x, .string s, .slice a1 l1 c1, .slice a2 l2 c2]] w fun e w' => e = .returned (.int .i64 0) ∧ Below w.heap.size w w' := by
  have HC : Hid (∀ o, Calls Tryz.prog 29 #[.agg #[.int .i64 kd, .int .i64 x, .string s, .slice a1 l1 c1, .slice a2 l2 c2], .int .i64 0] (w.alloc o) fun e w' => e = .returned (.int .i64 0) ∧ Below w.heap.size w w') := fun o => by
    have hb : Below w.heap.size w (w.alloc o) := (Below.refl _ _).alloc (Nat.le_refl _) _
    refine (check_all j 0 lo hi (w.alloc o) kd x s a1 l1 c1 a2 l2 c2 (Rep.keep j _ hr (fun k ka kb => hb.block k (by omega))) (by have := hb.size; omega) hok (utf_below hU hb h8) (by have := hb.size; omega)).mono ?_
    rintro e w' ⟨rfl, h⟩
    exact ⟨rfl, hb.trans (h.mono hb.size)⟩
  clear hr hh hok hU
  go_enter Tryz.func21, Tryz.ntmps21
  go_wp2_with fail
  refine (HC.out _).mono ?_
  rintro e w1 ⟨rfl, hb1⟩
  go_wp2_with fail
  go_ret
  exact ⟨rfl, hb1⟩

set_option maxHeartbeats 1000000 in
theorem print_any (j : J) (lo hi : Nat) (w : World) (kd x : Int) (s : ByteArray) (a1 : Option Addr) (l1 c1 : Nat) (a2 : Option Addr) (l2 c2 : Nat) (hr : Rep w lo hi j (five kd x s (.slice a1 l1 c1) (.slice a2 l2 c2))) (hh : hi ≤ w.heap.size) (hok : okJ 0 j) (hsm : smJ j) (hlen : lenJ j ≤ 65536) (htx : (textJ j).length ≤ 900000000) (hE : EnvP w) :
    Calls Tryz.prog 18 #[.agg #[.int .i64 kd, .int .i64 x, .string s, .slice a1 l1 c1, .slice a2 l2 c2]] w fun e w' => e = .returned (.tuple #[.string ⟨(textJ j).toArray⟩, .int .i64 0]) ∧ Below w.heap.size w w' := by
  have h8 := hE.big
  have HC1 : Hid (∀ w', Below w.heap.size w w' → Calls Tryz.prog 21 #[.agg #[.int .i64 kd, .int .i64 x, .string s, .slice a1 l1 c1, .slice a2 l2 c2]] w' fun e w'' => e = .returned (.int .i64 0) ∧ Below w'.heap.size w' w'') := fun w' hb =>
    check_top j lo hi w' kd x s a1 l1 c1 a2 l2 c2 (Rep.keep j _ hr (fun k ka kb => hb.block k (by omega))) (by have := hb.size; omega) hok (utf_below hE.utf hb h8) (by have := hb.size; omega)
  have HC2 : Hid (∀ w', Below w.heap.size w w' → Calls Tryz.prog 22 #[.agg #[.int .i64 kd, .int .i64 x, .string s, .slice a1 l1 c1, .slice a2 l2 c2]] w' fun e w'' => e = .returned (.int .i64 (lenJ j : Nat)) ∧ Below w'.heap.size w' w'') := fun w' hb =>
    len_all j lo hi w' kd x s a1 l1 c1 a2 l2 c2 (Rep.keep j _ hr (fun k ka kb => hb.block k (by omega))) (by have := hb.size; omega) hsm (by omega) (hE.below hb h8)
  have HC3 : Hid (∀ w' B, Below w.heap.size w w' → w.heap.size ≤ B → Bd B [] w' → Calls Tryz.prog 24 #[.pointer (some ⟨B, 0, none⟩), .agg #[.int .i64 kd, .int .i64 x, .string s, .slice a1 l1 c1, .slice a2 l2 c2]] w' fun e w'' => e = .returned (.tuple #[]) ∧ Bd B (textJ j) w'' ∧ St B w' w'') := fun w' B hb hB hbd => by
    have := write_all j lo hi w' B [] kd x s a1 l1 c1 a2 l2 c2 (Rep.keep j _ hr (fun k ka kb => hb.block k (by omega))) (by omega) (by omega) hsm (hE.below hb h8) hbd (by simpa using htx)
    simpa using this
  have hB : ∀ o, Below w.heap.size w (w.alloc o) := fun o => (Below.refl _ _).alloc (Nat.le_refl _) _
  have hl : ((lenJ j : Nat) : Int) ≤ 65536 := by omega
  clear hr hh hok hsm htx hE
  go_enter Tryz.func18, Tryz.ntmps18
  go_wp2_with fail
  refine (HC1.out _ (hB _)).mono ?_
  rintro e w1 ⟨rfl, hb1⟩
  have hbw1 := (hB _).trans (hb1.mono (by simp))
  have u0 : w1.cell? ⟨w.heap.size, 0, none⟩ = some (.int .i64 kd) := box_cells (by simpa using hb1) 0
  have u1 : w1.cell? ⟨w.heap.size, 1, none⟩ = some (.int .i64 x) := box_cells (by simpa using hb1) 1
  have u2 : w1.cell? ⟨w.heap.size, 2, none⟩ = some (.string s) := box_cells (by simpa using hb1) 2
  have u3 : w1.cell? ⟨w.heap.size, 3, none⟩ = some (.slice a1 l1 c1) := box_cells (by simpa using hb1) 3
  have u4 : w1.cell? ⟨w.heap.size, 4, none⟩ = some (.slice a2 l2 c2) := box_cells (by simpa using hb1) 4
  have hs1 : w.heap.size < w1.heap.size := by have := hb1.size; simp at this; omega
  clear hb1
  go_wp2_with fail
  refine (HC2.out w1 hbw1).mono ?_
  rintro e w2 ⟨rfl, hb2⟩
  have hbw2 := hbw1.trans (hb2.mono hbw1.size)
  have u0' : w2.cell? ⟨w.heap.size, 0, none⟩ = some (.int .i64 kd) := (World.cell?_of_block (w := w1) (a := ⟨w.heap.size, 0, none⟩) (hb2.block w.heap.size hs1)).trans u0
  have u1' : w2.cell? ⟨w.heap.size, 1, none⟩ = some (.int .i64 x) := (World.cell?_of_block (w := w1) (a := ⟨w.heap.size, 1, none⟩) (hb2.block w.heap.size hs1)).trans u1
  have u2' : w2.cell? ⟨w.heap.size, 2, none⟩ = some (.string s) := (World.cell?_of_block (w := w1) (a := ⟨w.heap.size, 2, none⟩) (hb2.block w.heap.size hs1)).trans u2
  have u3' : w2.cell? ⟨w.heap.size, 3, none⟩ = some (.slice a1 l1 c1) := (World.cell?_of_block (w := w1) (a := ⟨w.heap.size, 3, none⟩) (hb2.block w.heap.size hs1)).trans u3
  have u4' : w2.cell? ⟨w.heap.size, 4, none⟩ = some (.slice a2 l2 c2) := (World.cell?_of_block (w := w1) (a := ⟨w.heap.size, 4, none⟩) (hb2.block w.heap.size hs1)).trans u4
  have hs2 : w.heap.size < w2.heap.size := Nat.lt_of_lt_of_le hs1 hb2.size
  clear u0 u1 u2 u3 u4 hb2
  have g0 : ¬ (((lenJ j : Nat) : Int) > 65536) := by omega
  go_wp2_with fail
  refine (Tryz.Builder_Grow_fresh_cap w2.heap.size w2.heap.size (lenJ j) _ (Nat.le_refl _) (heap_alloc_new w2 _) (by simp) (by omega)).mono ?_
  rintro e w3 ⟨rfl, ⟨hba, hb3⟩, -⟩
  have hb3' : Below w2.heap.size w2 w3 := ((Below.refl _ _).alloc (Nat.le_refl _) _).trans hb3
  have HBD : Hid (Bd w2.heap.size [] w3) := Or.inr (Lib.BuilderAtF.of hba)
  have hbw3 := hbw2.trans (hb3'.mono (by omega))
  have u0 : w3.cell? ⟨w.heap.size, 0, none⟩ = some (.int .i64 kd) := (World.cell?_of_block (w := w2) (a := ⟨w.heap.size, 0, none⟩) (hb3'.block w.heap.size hs2)).trans u0'
  have u1 : w3.cell? ⟨w.heap.size, 1, none⟩ = some (.int .i64 x) := (World.cell?_of_block (w := w2) (a := ⟨w.heap.size, 1, none⟩) (hb3'.block w.heap.size hs2)).trans u1'
  have u2 : w3.cell? ⟨w.heap.size, 2, none⟩ = some (.string s) := (World.cell?_of_block (w := w2) (a := ⟨w.heap.size, 2, none⟩) (hb3'.block w.heap.size hs2)).trans u2'
  have u3 : w3.cell? ⟨w.heap.size, 3, none⟩ = some (.slice a1 l1 c1) := (World.cell?_of_block (w := w2) (a := ⟨w.heap.size, 3, none⟩) (hb3'.block w.heap.size hs2)).trans u3'
  have u4 : w3.cell? ⟨w.heap.size, 4, none⟩ = some (.slice a2 l2 c2) := (World.cell?_of_block (w := w2) (a := ⟨w.heap.size, 4, none⟩) (hb3'.block w.heap.size hs2)).trans u4'
  clear u0' u1' u2' u3' u4' hba hb3 hb3'
  go_wp2_with fail
  clear u0 u1 u2 u3 u4
  refine (HC3.out w3 w2.heap.size hbw3 (by omega) HBD.out).mono ?_
  rintro e w4 ⟨rfl, hb4, hst4⟩
  have HB4 : Hid (Bd w2.heap.size (textJ j) w4) := hb4
  have hbw4 := hbw3.trans (hst4.below.mono (by omega))
  clear hb4 hst4
  go_wp2_with fail
  refine (Tryz.Builder_String_any_k w2.heap.size w2.heap.size (textJ j) w4 HB4.out (Nat.le_of_lt HB4.out.lt)).mono ?_
  rintro e w5 ⟨rfl, -, hb5, -⟩
  have hbw5 := hbw4.trans (hb5.mono (by omega))
  clear hb5
  go_wp2_with fail
  go_ret2
  exact ⟨rfl, hbw5⟩
end Go.Proofs.YtnhijkmddfhcbaaGreatDoor
