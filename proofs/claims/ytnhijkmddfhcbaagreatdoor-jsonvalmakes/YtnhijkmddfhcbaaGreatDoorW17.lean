import Derived.Test.YtnhijkmddfhcbaaGreatDoorW16
namespace Go.Proofs.YtnhijkmddfhcbaaGreatDoor
open Go Go.RowKit Go.Maps

/-- The cells of item i of the row at block g. -/
structure ItemAt (w : World) (g i : Nat) (kd x : Int) (s : ByteArray) (a1 : Option Addr) (l1 c1 : Nat) (a2 : Option Addr) (l2 c2 : Nat) : Prop where
  f0 : w.cell? ⟨g, i * 5, none⟩ = some (.int .i64 kd)
  f1 : w.cell? ⟨g, i * 5 + 1, none⟩ = some (.int .i64 x)
  f2 : w.cell? ⟨g, i * 5 + 2, none⟩ = some (.string s)
  f3 : w.cell? ⟨g, i * 5 + 3, none⟩ = some (.slice a1 l1 c1)
  f4 : w.cell? ⟨g, i * 5 + 4, none⟩ = some (.slice a2 l2 c2)
theorem ItemAt.keep {w w' : World} {g i : Nat} {kd x : Int} {s : ByteArray} {a1 : Option Addr} {l1 c1 : Nat} {a2 : Option Addr} {l2 c2 : Nat} (h : ItemAt w g i kd x s a1 l1 c1 a2 l2 c2) (hk : w'.heap[g]? = w.heap[g]?) : ItemAt w' g i kd x s a1 l1 c1 a2 l2 c2 :=
  ⟨(World.cell?_of_block (w := w) hk).trans h.f0, (World.cell?_of_block (w := w) hk).trans h.f1, (World.cell?_of_block (w := w) hk).trans h.f2, (World.cell?_of_block (w := w) hk).trans h.f3, (World.cell?_of_block (w := w) hk).trans h.f4⟩

/-- What the items' walk asks: each item, in whatever later world, is checked and found good. -/
def ItemsGood (F : Nat) (args : Array Value) (res : Nat → Value) (w : World) (g n : Nat) : Prop :=
  ∀ i, i < n → ∃ (kd x : Int) (s : ByteArray) (a1 : Option Addr) (l1 c1 : Nat) (a2 : Option Addr) (l2 c2 : Nat), ItemAt w g i kd x s a1 l1 c1 a2 l2 c2 ∧
    ∀ w', Below w.heap.size w w' → Calls Tryz.prog F (#[.agg #[.int .i64 kd, .int .i64 x, .string s, .slice a1 l1 c1, .slice a2 l2 c2]] ++ args) w' fun e w'' => e = .returned (res i) ∧ Below w'.heap.size w' w''

set_option maxHeartbeats 1000000 in
theorem checkAt_none (k x : Int) (s : ByteArray) (a1 : Option Addr) (l1 c1 : Nat) (a2 : Option Addr) (c2 : Nat) (d : Int) (w : World) (h6 : (k == 6) = false)
    (hAl : ∀ w', Below w.heap.size w w' → Calls Tryz.prog 48 #[.agg #[.int .i64 k, .int .i64 x, .string s, .slice a1 l1 c1, .slice a2 0 c2], .int .i64 d] w' fun e w'' => e = .returned (.int .i64 0) ∧ Below w'.heap.size w' w'') :
    Calls Tryz.prog 29 #[.agg #[.int .i64 k, .int .i64 x, .string s, .slice a1 l1 c1, .slice a2 0 c2], .int .i64 d] w fun e w' => e = .returned (.int .i64 0) ∧ Below w.heap.size w w' := by
  have hB : ∀ o, Below w.heap.size w (w.alloc o) := fun o => (Below.refl _ _).alloc (Nat.le_refl _) _
  have HAl := hAl
  clear hAl
  go_enter Tryz.func29, Tryz.ntmps29
  go_wp2_with fail
  refine (HAl _ (hB _)).mono ?_
  rintro e w1 ⟨rfl, hb1⟩
  rw [World.size_alloc] at hb1
  have y0 : w1.cell? ⟨w.heap.size, 0, none⟩ = some (.int .i64 k) := box_cells hb1 0
  have y4 : w1.cell? ⟨w.heap.size, 4, none⟩ = some (.slice a2 0 c2) := box_cells hb1 4
  go_wp2_with fail
  refine wp_loop_rounds 1 ?_
  rw [rounds_succ]
  go_wp2_with fail
  go_ret
  exact ⟨rfl, below_box hb1⟩

set_option maxHeartbeats 1000000 in
theorem checkAt_some (k x : Int) (s : ByteArray) (a1 : Option Addr) (l1 c1 : Nat) (g n c2 : Nat) (d : Int) (w : World) (h6 : (k == 6) = false) (hg : g < w.heap.size) (hn : n ≤ 100000) (hd0 : 0 ≤ d) (hd1 : d ≤ 100)
    (hAl : ∀ w', Below w.heap.size w w' → Calls Tryz.prog 48 #[.agg #[.int .i64 k, .int .i64 x, .string s, .slice a1 l1 c1, .slice (some ⟨g, 0, none⟩) n c2], .int .i64 d] w' fun e w'' => e = .returned (.int .i64 0) ∧ Below w'.heap.size w' w'')
    (hIt : Hid (ItemsGood 29 #[.int .i64 (d + 1)] (fun _ => .int .i64 0) w g n)) :
    Calls Tryz.prog 29 #[.agg #[.int .i64 k, .int .i64 x, .string s, .slice a1 l1 c1, .slice (some ⟨g, 0, none⟩) n c2], .int .i64 d] w fun e w' => e = .returned (.int .i64 0) ∧ Below w.heap.size w w' := by
  have hB : ∀ o, Below w.heap.size w (w.alloc o) := fun o => (Below.refl _ _).alloc (Nat.le_refl _) _
  go_enter Tryz.func29, Tryz.ntmps29
  go_wp2_with fail
  refine (hAl _ (hB _)).mono ?_
  rintro e w1 ⟨rfl, hb1⟩
  rw [World.size_alloc] at hb1
  have y0 : w1.cell? ⟨w.heap.size, 0, none⟩ = some (.int .i64 k) := box_cells hb1 0
  have y4 : w1.cell? ⟨w.heap.size, 4, none⟩ = some (.slice (some ⟨g, 0, none⟩) n c2) := box_cells hb1 4
  have hbw1 := below_box hb1
  clear hb1 hAl
  go_wp2_with fail
  clear y0 y4
  go_loopw [24] (fun i wr => ∃ q : Nat, q ≤ n ∧ i = .int .i64 q ∧ Below w.heap.size w wr) (fun i wr => n - (intOf i).toNat)
  case atStart => exact ⟨0, Nat.zero_le _, rfl, hbw1⟩
  case round =>
    obtain ⟨q, hq, rfl, hbw⟩ := hrel
    by_cases hlt : q < n
    · obtain ⟨kd2, x2, s2, a12, l12, c12, a22, l22, c22, hia, hcall⟩ := hIt.out q hlt
      have hia' := hia.keep (hbw.block g hg)
      obtain ⟨z0, z1, z2, z3, z4⟩ := hia'
      have HC : Hid (∀ w', Below w.heap.size w w' → Calls Tryz.prog 29 (#[.agg #[.int .i64 kd2, .int .i64 x2, .string s2, .slice a12 l12 c12, .slice a22 l22 c22]] ++ #[.int .i64 (d + 1)]) w' fun e w'' => e = .returned (.int .i64 0) ∧ Below w'.heap.size w' w'') := hcall
      have i1 : (q : Int) < (n : Int) := by omega
      have hsz := hbw.size
      clear hcall hia
      go_wp2_with fail
      refine (HC.out _ (hbw.alloc hsz _)).mono ?_
      rintro e w3 ⟨rfl, hb3⟩
      have hbw3 : Below w.heap.size w w3 := (hbw.alloc hsz _).trans (hb3.mono (by simp; omega))
      clear hb3 HC z0 z1 z2 z3 z4
      go_wp2_with fail
      go_roundw
      case rel => exact ⟨q + 1, by omega, by go_num, hbw3⟩
      case measure => simp [intOf]; omega
    · go_wp2_with fail
      go_ret
      exact ⟨rfl, hbw⟩
end Go.Proofs.YtnhijkmddfhcbaaGreatDoor
