import Derived.Test.YtnlljodmkacmlaaGreatDoorJF
/-! Two lists of one entry each, joined. -/
namespace Go.Proofs.YtnlljodmkacmlaaGreatDoor
open Go Go.RowKit

set_option maxHeartbeats 1000000 in
set_option maxRecDepth 100000 in
theorem grow2 (w : World) : Calls Tryz.prog 76 #[.slice none 0 0, .int .i64 2] w fun e w' => Below w.heap.size w w' ∧ ∃ cap, e = .returned (.slice (some ⟨w.heap.size, 0, none⟩) 0 cap) ∧ w'.ownsRow w.heap.size 104 1 (.slice (some ⟨w.heap.size, 0, none⟩) 0 cap) 0 [] := by
  have hge := hid_of (grownCap_ge w 2 0 104)
  have hle := hid_of (grownCap_le_maxLen w 2 0 104 (by unfold maxLen; omega))
  unfold grownCap at hge hle
  go_enter Tryz.func76, Tryz.ntmps76
  go_wp2_with fail
  go_ret
  refine ⟨below_drew ((Below.refl _ w).alloc (Nat.le_refl _) _), _, rfl, rfl, .inr ⟨w.heap.size, _, _, rfl, Nat.le_refl _, heap_alloc_new w _, Nat.zero_le _, hle.out, ?_, by simp⟩⟩
  have := hge.out
  simp only [Array.size_append, size_zeroCells]
  simp
  omega
set_option maxHeartbeats 2000000 in
set_option maxRecDepth 100000 in
theorem concat2 (gc cc g1 cap1 g2 cap2 e1 e2 B lo lo' : Nat) (w : World) (hR : w.ownsRow B 68 1 (.slice (some ⟨gc, 0, none⟩) 2 cc) 2 [.slice (some ⟨g1, 0, none⟩) 1 cap1, .slice (some ⟨g2, 0, none⟩) 1 cap2])
    (h1 : w.ownsRow lo 104 1 (.slice (some ⟨g1, 0, none⟩) 1 cap1) 1 [.pointer (some ⟨e1, 0, none⟩)]) (h2 : w.ownsRow lo' 104 1 (.slice (some ⟨g2, 0, none⟩) 1 cap2) 1 [.pointer (some ⟨e2, 0, none⟩)]) :
    Calls Tryz.prog 45 #[.slice (some ⟨gc, 0, none⟩) 2 cc] w fun e w' => Below w.heap.size w w' ∧ ∃ g cap, e = .returned (.slice (some ⟨g, 0, none⟩) 2 cap) ∧ w'.ownsRow w.heap.size 104 1 (.slice (some ⟨g, 0, none⟩) 2 cap) 2 [.pointer (some ⟨e1, 0, none⟩), .pointer (some ⟨e2, 0, none⟩)] := by
  obtain ⟨i5, hi5, hz0, hz1, hz2⟩ := info_parts AE
  have l0 : gc < w.heap.size := (ownsRow_ge hR rfl).2
  have c0 : w.cell? ⟨gc, 0, none⟩ = some (.slice (some ⟨g1, 0, none⟩) 1 cap1) := hR.cellAt 0 (by simp)
  have c1 : w.cell? ⟨gc, 1, none⟩ = some (.slice (some ⟨g2, 0, none⟩) 1 cap2) := hR.cellAt 1 (by simp)
  clear hR
  replace h1 := hid_of h1
  replace h2 := hid_of h2
  go_enter Tryz.func45, Tryz.ntmps45
  go_wp2_with fail
  refine wp_loop_rounds 3 ?_
  rw [rounds_succ]
  go_wp2_with fail
  rw [rounds_succ]
  go_wp2_with fail
  rw [rounds_succ]
  go_wp2_with fail
  refine (grow2 w).mono ?_
  rintro e X1 ⟨hb1, cap, rfl, hO⟩
  replace c0 := stay hb1 c0
  replace c1 := stay hb1 c1
  have r1 := ownsRow_below h1.out hb1
  have r2 := ownsRow_below h2.out hb1
  have l1 : g1 < w.heap.size := (ownsRow_ge h1.out rfl).2
  have l2 : g2 < w.heap.size := (ownsRow_ge h2.out rfl).2
  have hs1 := hid_of hb1.size
  replace hb1 := hid_of hb1
  replace hO := hid_of hO
  clear h1 h2
  go_wp2_with fail
  refine wp_loop_rounds 3 ?_
  rw [rounds_succ]
  go_wp2_with (at_builtin; refine wpList_append_lies _ rfl _ _ 68 rfl w.heap.size 104 i5 _ 1 8 Tryz.underlying68 hi5 hz0 hz1 hz2 rfl (by decide) _ 0 ([] : List Value) rfl hO.out _ 1 cap1 [.pointer (some ⟨e1, 0, none⟩)] rfl rfl (r1.cells rfl) (by simp [Value.oneCell']) (by decide) (by unfold maxLen; omega) (by omega) hs1.out _ rfl ?_; intro g3 cap3 X2 hown3 hgrow3 hat3 hlt3; have q2 := hid_of (hb1.out.trans (grown_below hgrow3 hs1.out (fun g hg => by cases hg; exact Nat.le_refl _))); have r2' := ownsRow_keep r2 (w' := X2) (fun q hq => by cases hq; exact hgrow3.block _ (Nat.lt_of_lt_of_le l2 hs1.out) (fun e => by cases e; exact absurd l2 (Nat.lt_irrefl _))); have k1 := grown_cell hgrow3 c1 (fun r hr => by cases hr; exact Nat.ne_of_lt l0); replace hown3 := hid_of hown3; have hg3 := hid_of (ownsRow_ge hown3.out rfl); clear hgrow3 hat3 hlt3 hO r1)
  rw [rounds_succ]
  go_wp2_with (at_builtin; refine wpList_append_lies _ rfl _ _ 68 rfl w.heap.size 104 i5 _ 1 8 Tryz.underlying68 hi5 hz0 hz1 hz2 rfl (by decide) _ 1 [.pointer (some ⟨e1, 0, none⟩)] rfl hown3.out _ 1 cap2 [.pointer (some ⟨e2, 0, none⟩)] rfl rfl (r2'.cells rfl) (by simp [Value.oneCell']) (by decide) (by unfold maxLen; omega) (by omega) q2.out.size _ rfl ?_; intro g4 cap4 X3 hown4 hgrow4 hat4 hlt4; have q3 := hid_of (q2.out.trans (grown_below hgrow4 q2.out.size (fun g hg => by cases hg; exact hg3.out.1))); replace hown4 := hid_of hown4; clear hgrow4 hat4 hlt4)
  rw [rounds_succ]
  go_wp2_with fail
  go_ret
  exact ⟨q3.out, g4, cap4, rfl, hown4.out⟩
end Go.Proofs.YtnlljodmkacmlaaGreatDoor
/-! Two entries compared, by values and by keys. -/
namespace Go.Proofs.YtnlljodmkacmlaaGreatDoor
open Go Go.RowKit

theorem k_quiet_if {c : Bool} {p q : Prop} (h : c = true) (hp : p) : if c = true then p else q := by rw [if_pos h]; exact hp
set_option maxHeartbeats 2000000 in
set_option maxRecDepth 100000 in
theorem byValues2 (a b : Nat) (x y : Int) (ka kb : ByteArray) (w : World) (ha : EntAt w a x ka) (hb : EntAt w b y kb) (hne : (cmpI x y != 0) = true) :
    Calls Tryz.prog 47 #[.pointer (some ⟨a, 0, none⟩), .pointer (some ⟨b, 0, none⟩)] w fun e w' => e = .returned (.int .i64 (cmpI x y)) ∧ Below w.heap.size w w' := by
  obtain ⟨a0, a1, a2, a3, a4, -⟩ := ha.cells
  obtain ⟨b0, b1, b2, b3, b4, -⟩ := hb.cells
  have hc := fun W => hid_of (compare_num x y W)
  unfold numV at hc
  clear ha hb
  go_enter Tryz.func47, Tryz.ntmps47
  go_wp2_with fail
  go_region_held3 (fun W => W.cell? ⟨a, 0, none⟩ = some (.int .i64 3) ∧ W.cell? ⟨a, 1, none⟩ = some (.int .i64 x) ∧ W.cell? ⟨a, 2, none⟩ = some (.string ⟨#[]⟩) ∧ W.cell? ⟨a, 3, none⟩ = some (.slice none 0 0) ∧ W.cell? ⟨a, 4, none⟩ = some (.slice none 0 0) ∧ W.cell? ⟨b, 0, none⟩ = some (.int .i64 3) ∧ W.cell? ⟨b, 1, none⟩ = some (.int .i64 y) ∧ W.cell? ⟨b, 2, none⟩ = some (.string ⟨#[]⟩) ∧ W.cell? ⟨b, 3, none⟩ = some (.slice none 0 0) ∧ W.cell? ⟨b, 4, none⟩ = some (.slice none 0 0)) (go_keep) ((go_at_call 52; refine (hc _).out.mono ?_; rintro e X1 ⟨rfl, hq⟩; have HB : Below w.heap.size w X1 := (below_drew (Below.refl _ w)).trans hq; clear hq; have j0 := stay HB a0; have j1 := stay HB a1; have j2 := stay HB a2; have j3 := stay HB a3; have j4 := stay HB a4; have l0 := stay HB b0; have l1 := stay HB b1; have l2 := stay HB b2; have l3 := stay HB b3; have l4 := stay HB b4))
  go_wp2_with fail
  go_ret
  exact ⟨rfl, HB⟩
set_option maxHeartbeats 2000000 in
set_option maxRecDepth 100000 in
theorem byKeys2 (a b : Nat) (x y : Int) (ka kb : ByteArray) (w : World) (ha : EntAt w a x ka) (hb : EntAt w b y kb) :
    Calls Tryz.prog 48 #[.pointer (some ⟨a, 0, none⟩), .pointer (some ⟨b, 0, none⟩)] w fun e w' => e = .returned (.int .i64 (cmpS ka kb)) ∧ Below w.heap.size w w' := by
  obtain ⟨-, -, -, -, -, a5⟩ := ha.cells
  obtain ⟨-, -, -, -, -, b5⟩ := hb.cells
  have hc := fun W => hid_of (cmpStr ka kb W)
  clear ha hb
  go_enter Tryz.func48, Tryz.ntmps48
  go_wp2_with fail
  go_region_held3 (fun W => W.cell? ⟨a, 5, none⟩ = some (.string ka) ∧ W.cell? ⟨b, 5, none⟩ = some (.string kb)) (go_keep) ((go_at_call 80; refine (hc _).out.mono ?_; rintro e X1 ⟨rfl, rfl⟩))
  go_wp2_with fail
  go_ret
  exact ⟨rfl, below_drew (Below.refl _ w)⟩
set_option maxHeartbeats 2000000 in
set_option maxRecDepth 100000 in
theorem edits1V (bx a b : Nat) (x y : Int) (ka kb : ByteArray) (w : World) (hx : w.cell? ⟨bx, 0, none⟩ = some (.func (.func 47) #[] #[])) (ha : EntAt w a x ka) (hb : EntAt w b y kb) (hne : (cmpI x y != 0) = true) :
    Calls Tryz.prog 113 #[.agg #[.pointer (some ⟨a, 0, none⟩), .bool true], .agg #[.pointer (some ⟨b, 0, none⟩), .bool true], .pointer (some ⟨bx, 0, none⟩)] w fun e w' => e = .returned (.int .i64 (cmpI x y)) ∧ Below w.heap.size w w' := by
  have HB : Below w.heap.size w ((w.alloc (.cells #[.pointer (some ⟨a, 0, none⟩), .bool true] 134)).alloc (.cells #[.pointer (some ⟨b, 0, none⟩), .bool true] 134)) := ((Below.refl _ w).alloc (Nat.le_refl _) _).alloc (by simp) _
  have hx' := stay HB hx
  have hc := hid_of (byValues2 a b x y ka kb _ (ha.keep HB) (hb.keep HB) hne)
  clear ha hb
  go_enter Tryz.func113, Tryz.ntmps113
  go_wp2_with fail
  refine hc.out.mono ?_
  rintro e X1 ⟨rfl, hq⟩
  replace HB := HB.trans (hq.mono HB.size)
  clear hq hc hx'
  go_wp2_with fail
  go_ret
  exact ⟨rfl, HB⟩
set_option maxHeartbeats 2000000 in
set_option maxRecDepth 100000 in
theorem edits1K (bx a b : Nat) (x y : Int) (ka kb : ByteArray) (w : World) (hx : w.cell? ⟨bx, 0, none⟩ = some (.func (.func 48) #[] #[])) (ha : EntAt w a x ka) (hb : EntAt w b y kb) :
    Calls Tryz.prog 113 #[.agg #[.pointer (some ⟨a, 0, none⟩), .bool true], .agg #[.pointer (some ⟨b, 0, none⟩), .bool true], .pointer (some ⟨bx, 0, none⟩)] w fun e w' => e = .returned (.int .i64 (cmpS ka kb)) ∧ Below w.heap.size w w' := by
  have HB : Below w.heap.size w ((w.alloc (.cells #[.pointer (some ⟨a, 0, none⟩), .bool true] 134)).alloc (.cells #[.pointer (some ⟨b, 0, none⟩), .bool true] 134)) := ((Below.refl _ w).alloc (Nat.le_refl _) _).alloc (by simp) _
  have hx' := stay HB hx
  have hc := hid_of (byKeys2 a b x y ka kb _ (ha.keep HB) (hb.keep HB))
  clear ha hb
  go_enter Tryz.func113, Tryz.ntmps113
  go_wp2_with fail
  refine hc.out.mono ?_
  rintro e X1 ⟨rfl, hq⟩
  replace HB := HB.trans (hq.mono HB.size)
  clear hq hc hx'
  go_wp2_with fail
  go_ret
  exact ⟨rfl, HB⟩
end Go.Proofs.YtnlljodmkacmlaaGreatDoor
