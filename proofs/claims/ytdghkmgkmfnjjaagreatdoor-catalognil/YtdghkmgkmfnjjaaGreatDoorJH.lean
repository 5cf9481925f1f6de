import Derived.Test.YtdghkmgkmfnjjaaGreatDoorJG
/-! Two entries compared, by values and by keys. -/
namespace Go.Proofs.YtdghkmgkmfnjjaaGreatDoor
open Go Go.RowKit

theorem k_quiet_if {c : Bool} {p q : Prop} (h : c = true) (hp : p) : if c = true then p else q := by rw [if_pos h]; exact hp
set_option maxHeartbeats 2000000 in
set_option maxRecDepth 100000 in
theorem byValues2 (a b : Nat) (x y : Int) (ka kb : ByteArray) (w : World) (ha : EntAt w a x ka) (hb : EntAt w b y kb) (hne : (cmpI x y != 0) = true) :
    Calls Tryz.prog 133 #[.pointer (some ⟨a, 0, none⟩), .pointer (some ⟨b, 0, none⟩)] w fun e w' => e = .returned (.int .i64 (cmpI x y)) ∧ Below w.heap.size w w' := by
  obtain ⟨a0, a1, a2, a3, a4, -⟩ := ha.cells
  obtain ⟨b0, b1, b2, b3, b4, -⟩ := hb.cells
  have hc := fun W => hid_of (compare_num x y W)
  unfold numV at hc
  clear ha hb
  go_enter Tryz.func133, Tryz.ntmps133
  go_wp2_with fail
  go_region_held3 (fun W => W.cell? ⟨a, 0, none⟩ = some (.int .i64 3) ∧ W.cell? ⟨a, 1, none⟩ = some (.int .i64 x) ∧ W.cell? ⟨a, 2, none⟩ = some (.string ⟨#[]⟩) ∧ W.cell? ⟨a, 3, none⟩ = some (.slice none 0 0) ∧ W.cell? ⟨a, 4, none⟩ = some (.slice none 0 0) ∧ W.cell? ⟨b, 0, none⟩ = some (.int .i64 3) ∧ W.cell? ⟨b, 1, none⟩ = some (.int .i64 y) ∧ W.cell? ⟨b, 2, none⟩ = some (.string ⟨#[]⟩) ∧ W.cell? ⟨b, 3, none⟩ = some (.slice none 0 0) ∧ W.cell? ⟨b, 4, none⟩ = some (.slice none 0 0)) (go_keep) ((go_at_call 64; refine (hc _).out.mono ?_; rintro e X1 ⟨rfl, hq⟩; have HB : Below w.heap.size w X1 := (below_drew (Below.refl _ w)).trans hq; clear hq; have j0 := stay HB a0; have j1 := stay HB a1; have j2 := stay HB a2; have j3 := stay HB a3; have j4 := stay HB a4; have l0 := stay HB b0; have l1 := stay HB b1; have l2 := stay HB b2; have l3 := stay HB b3; have l4 := stay HB b4))
  go_wp2_with fail
  go_ret
  exact ⟨rfl, HB⟩
set_option maxHeartbeats 2000000 in
set_option maxRecDepth 100000 in
theorem byKeys2 (a b : Nat) (x y : Int) (ka kb : ByteArray) (w : World) (ha : EntAt w a x ka) (hb : EntAt w b y kb) :
    Calls Tryz.prog 134 #[.pointer (some ⟨a, 0, none⟩), .pointer (some ⟨b, 0, none⟩)] w fun e w' => e = .returned (.int .i64 (cmpS ka kb)) ∧ Below w.heap.size w w' := by
  obtain ⟨-, -, -, -, -, a5⟩ := ha.cells
  obtain ⟨-, -, -, -, -, b5⟩ := hb.cells
  have hc := fun W => hid_of (cmpStr ka kb W)
  clear ha hb
  go_enter Tryz.func134, Tryz.ntmps134
  go_wp2_with fail
  go_region_held3 (fun W => W.cell? ⟨a, 5, none⟩ = some (.string ka) ∧ W.cell? ⟨b, 5, none⟩ = some (.string kb)) (go_keep) ((go_at_call 98; refine (hc _).out.mono ?_; rintro e X1 ⟨rfl, rfl⟩))
  go_wp2_with fail
  go_ret
  exact ⟨rfl, below_drew (Below.refl _ w)⟩
set_option maxHeartbeats 2000000 in
set_option maxRecDepth 100000 in
theorem edits1V (bx a b : Nat) (x y : Int) (ka kb : ByteArray) (w : World) (hx : w.cell? ⟨bx, 0, none⟩ = some (.func (.func 133) #[] #[])) (ha : EntAt w a x ka) (hb : EntAt w b y kb) (hne : (cmpI x y != 0) = true) :
    Calls Tryz.prog 181 #[.agg #[.pointer (some ⟨a, 0, none⟩), .bool true], .agg #[.pointer (some ⟨b, 0, none⟩), .bool true], .pointer (some ⟨bx, 0, none⟩)] w fun e w' => e = .returned (.int .i64 (cmpI x y)) ∧ Below w.heap.size w w' := by
  have HB : Below w.heap.size w ((w.alloc (.cells #[.pointer (some ⟨a, 0, none⟩), .bool true] 248)).alloc (.cells #[.pointer (some ⟨b, 0, none⟩), .bool true] 248)) := ((Below.refl _ w).alloc (Nat.le_refl _) _).alloc (by simp) _
  have hx' := stay HB hx
  have hc := hid_of (byValues2 a b x y ka kb _ (ha.keep HB) (hb.keep HB) hne)
  clear ha hb
  go_enter Tryz.func181, Tryz.ntmps181
  go_wp2_with fail
  refine hc.out.mono ?_
  rintro e X1 ⟨rfl, hq⟩
  replace HB := HB.trans (hq.mono HB.size)
  clear hq hc hx'
  go_wp2_with fail
  go_ret
  exact ⟨rfl, HB⟩
set_option maxHeartbeats 2000000 in
set_option maxRecDepth 100000 in
theorem edits1K (bx a b : Nat) (x y : Int) (ka kb : ByteArray) (w : World) (hx : w.cell? ⟨bx, 0, none⟩ = some (.func (.func 134) #[] #[])) (ha : EntAt w a x ka) (hb : EntAt w b y kb) :
    Calls Tryz.prog 181 #[.agg #[.pointer (some ⟨a, 0, none⟩), .bool true], .agg #[.pointer (some ⟨b, 0, none⟩), .bool true], .pointer (some ⟨bx, 0, none⟩)] w fun e w' => e = .returned (.int .i64 (cmpS ka kb)) ∧ Below w.heap.size w w' := by
  have HB : Below w.heap.size w ((w.alloc (.cells #[.pointer (some ⟨a, 0, none⟩), .bool true] 248)).alloc (.cells #[.pointer (some ⟨b, 0, none⟩), .bool true] 248)) := ((Below.refl _ w).alloc (Nat.le_refl _) _).alloc (by simp) _
  have hx' := stay HB hx
  have hc := hid_of (byKeys2 a b x y ka kb _ (ha.keep HB) (hb.keep HB))
  clear ha hb
  go_enter Tryz.func181, Tryz.ntmps181
  go_wp2_with fail
  refine hc.out.mono ?_
  rintro e X1 ⟨rfl, hq⟩
  replace HB := HB.trans (hq.mono HB.size)
  clear hq hc hx'
  go_wp2_with fail
  go_ret
  exact ⟨rfl, HB⟩
end Go.Proofs.YtdghkmgkmfnjjaaGreatDoor
