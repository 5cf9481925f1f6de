import Derived.Test.YtdghkmgkmfnjjaaGreatDoorJP
/-! The ranges of a need. -/
namespace Go.Proofs.YtdghkmgkmfnjjaaGreatDoor
open Go Go.RowKit

set_option maxHeartbeats 2000000 in
set_option maxRecDepth 100000 in
theorem between_1 (lo yb vb e1 e2 : Nat) (x1 x2 v z y : Int) (k1 k2 nm pt : ByteArray) (pv : Value) (w : World) (hX : Ix2 w lo yb nm pt pv e1 e2 x1 x2 k1 k2) (hv : NumAt w vb 0 v) (hz : placeN (decide (0 ≤ cmpI x1 v)) (decide (0 ≤ cmpI x2 v)) = z) (hy : placeN (decide (0 < cmpI x1 v)) (decide (0 < cmpI x2 v)) = y) :
    Calls Tryz.prog 69 #[.pointer (some ⟨yb, 0, none⟩), .func (.func 63) #[] #[.pointer (some ⟨vb, 0, none⟩)], .func (.func 65) #[] #[.pointer (some ⟨vb, 0, none⟩)]] w fun e w' => ∃ g, e = .returned (.slice (some ⟨g, 0, none⟩) 1 1) ∧ Below w.heap.size w w' ∧ w'.heap[g]? = some (.cells #[.int .i64 z, .int .i64 y] 98 (0, 0)) := by
  have h1 := hid_of (place_1 lo yb vb e1 e2 x1 x2 v k1 k2 nm pt pv w hX hv)
  rw [hz] at h1
  have h4 : Hid (∀ W, Below w.heap.size w W → _) := hid_of (fun W (hW : Below w.heap.size w W) => place_2 lo yb vb e1 e2 x1 x2 v k1 k2 nm pt pv W (hX.keep hW) (hv.keep hW))
  rw [hy] at h4
  clear hX hv hz hy
  go_enter Tryz.func69, Tryz.ntmps69
  go_wp2_with fail
  refine h1.out.mono ?_
  rintro e X1 ⟨rfl, hX1⟩
  clear h1
  have h5 := hid_of (h4.out X1 hX1)
  replace hX1 := hid_of hX1
  clear h4
  go_wp2_with fail
  refine h5.out.mono ?_
  rintro e X2 ⟨rfl, hX2⟩
  have hB := hX1.out.trans (hX2.mono hX1.out.size)
  have hB' := hid_of (hB.alloc hB.size (.cells #[.int .i64 z, .int .i64 y] 98))
  have hn := hid_of (heap_alloc_new X2 (.cells #[.int .i64 z, .int .i64 y] 98))
  clear h5 hX1 hX2 hB
  go_wp2_with fail
  go_ret
  exact ⟨_, rfl, hB'.out, hn.out⟩
set_option maxHeartbeats 2000000 in
set_option maxRecDepth 100000 in
theorem reaches_1 (lo yb e1 e2 : Nat) (x1 x2 v z y : Int) (k1 k2 nm pt : ByteArray) (pv : Value) (w : World) (hX : Ix2 w lo yb nm pt pv e1 e2 x1 x2 k1 k2) (hz : placeN (decide (0 ≤ cmpI x1 v)) (decide (0 ≤ cmpI x2 v)) = z) (hy : placeN (decide (0 < cmpI x1 v)) (decide (0 < cmpI x2 v)) = y) :
    Calls Tryz.prog 44 #[.pointer (some ⟨yb, 0, none⟩), .int .i64 1, .agg #[.int .i64 3, .int .i64 v, .string ⟨#[]⟩, .slice none 0 0, .slice none 0 0]] w fun e w' => ∃ g, e = .returned (.slice (some ⟨g, 0, none⟩) 1 1) ∧ Below w.heap.size w w' ∧ w'.heap[g]? = some (.cells #[.int .i64 z, .int .i64 y] 98 (0, 0)) := by
  have hB := (Below.refl _ w).alloc (Nat.le_refl _) (.cells #[.int .i64 3, .int .i64 v, .string ⟨#[]⟩, .slice none 0 0, .slice none 0 0] 25)
  have hb := hid_of (between_1 lo yb w.heap.size e1 e2 x1 x2 v z y k1 k2 nm pt pv _ (hX.keep hB) (numAt_new w v) hz hy)
  unfold numC at hb
  replace hB := hid_of hB
  clear hX hz hy
  go_enter Tryz.func44, Tryz.ntmps44
  go_wp2_with fail
  refine hb.out.mono ?_
  rintro e X1 ⟨g, rfl, hX1, hn⟩
  replace hB := hid_of (hB.out.trans (hX1.mono hB.out.size))
  replace hn := hid_of hn
  clear hb hX1
  go_wp2_with fail
  go_ret
  exact ⟨_, rfl, hB.out, hn.out⟩
end Go.Proofs.YtdghkmgkmfnjjaaGreatDoor
