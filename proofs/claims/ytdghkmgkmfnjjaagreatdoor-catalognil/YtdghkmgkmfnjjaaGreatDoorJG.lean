import Derived.Test.YtdghkmgkmfnjjaaGreatDoorJF
/-! Two lists of one entry each, joined. -/
namespace Go.Proofs.YtdghkmgkmfnjjaaGreatDoor
open Go Go.RowKit

set_option maxHeartbeats 1000000 in
set_option maxRecDepth 100000 in
theorem grow2 (w : World) : Calls Tryz.prog 164 #[.slice none 0 0, .int .i64 2] w fun e w' => Below w.heap.size w w' ∧ ∃ cap, e = .returned (.slice (some ⟨w.heap.size, 0, none⟩) 0 cap) ∧ w'.ownsRow w.heap.size 128 1 (.slice (some ⟨w.heap.size, 0, none⟩) 0 cap) 0 [] := by
  have hge := hid_of (grownCap_ge w 2 0 128)
  have hle := hid_of (grownCap_le_maxLen w 2 0 128 (by unfold maxLen; omega))
  unfold grownCap at hge hle
  go_enter Tryz.func164, Tryz.ntmps164
  go_wp2_with fail
  go_ret
  refine ⟨below_drew ((Below.refl _ w).alloc (Nat.le_refl _) _), _, rfl, rfl, .inr ⟨w.heap.size, _, _, rfl, Nat.le_refl _, heap_alloc_new w _, Nat.zero_le _, hle.out, ?_, by simp⟩⟩
  have := hge.out
  simp only [Array.size_append, size_zeroCells]
  simp
  omega
set_option maxHeartbeats 2000000 in
set_option maxRecDepth 100000 in
theorem concat2 (gc cc g1 cap1 g2 cap2 e1 e2 B lo lo' : Nat) (w : World) (hR : w.ownsRow B 103 1 (.slice (some ⟨gc, 0, none⟩) 2 cc) 2 [.slice (some ⟨g1, 0, none⟩) 1 cap1, .slice (some ⟨g2, 0, none⟩) 1 cap2])
    (h1 : w.ownsRow lo 128 1 (.slice (some ⟨g1, 0, none⟩) 1 cap1) 1 [.pointer (some ⟨e1, 0, none⟩)]) (h2 : w.ownsRow lo' 128 1 (.slice (some ⟨g2, 0, none⟩) 1 cap2) 1 [.pointer (some ⟨e2, 0, none⟩)]) :
    Calls Tryz.prog 131 #[.slice (some ⟨gc, 0, none⟩) 2 cc] w fun e w' => Below w.heap.size w w' ∧ ∃ g cap, e = .returned (.slice (some ⟨g, 0, none⟩) 2 cap) ∧ w'.ownsRow w.heap.size 128 1 (.slice (some ⟨g, 0, none⟩) 2 cap) 2 [.pointer (some ⟨e1, 0, none⟩), .pointer (some ⟨e2, 0, none⟩)] := by
  obtain ⟨i5, hi5, hz0, hz1, hz2⟩ := info_parts AE
  have l0 : gc < w.heap.size := (ownsRow_ge hR rfl).2
  have c0 : w.cell? ⟨gc, 0, none⟩ = some (.slice (some ⟨g1, 0, none⟩) 1 cap1) := hR.cellAt 0 (by simp)
  have c1 : w.cell? ⟨gc, 1, none⟩ = some (.slice (some ⟨g2, 0, none⟩) 1 cap2) := hR.cellAt 1 (by simp)
  clear hR
  replace h1 := hid_of h1
  replace h2 := hid_of h2
  go_enter Tryz.func131, Tryz.ntmps131
  go_wp2_with fail
  refine wp_loop_rounds 3 ?_
  rw [rounds_succ]
  go_wp2_with fail
  rw [rounds_succ]
  go_wp2_with fail
  rw [rounds_succ]
  go_wp2_with fail
  refine (grow2 w).mono ?_
  rintro e X1 ⟨hb1, cap, rfl, hO⟩
  replace c0 := stay hb1 c0
  replace c1 := stay hb1 c1
  have r1 := ownsRow_below h1.out hb1
  have r2 := ownsRow_below h2.out hb1
  have l1 : g1 < w.heap.size := (ownsRow_ge h1.out rfl).2
  have l2 : g2 < w.heap.size := (ownsRow_ge h2.out rfl).2
  have hs1 := hid_of hb1.size
  replace hb1 := hid_of hb1
  replace hO := hid_of hO
  clear h1 h2
  go_wp2_with fail
  refine wp_loop_rounds 3 ?_
  rw [rounds_succ]
  go_wp2_with (at_builtin; refine wpList_append_lies _ rfl _ _ 103 rfl w.heap.size 128 i5 _ 1 8 Tryz.underlying103 hi5 hz0 hz1 hz2 rfl (by decide) _ 0 ([] : List Value) rfl hO.out _ 1 cap1 [.pointer (some ⟨e1, 0, none⟩)] rfl rfl (r1.cells rfl) (by simp [Value.oneCell']) (by decide) (by unfold maxLen; omega) (by omega) hs1.out _ rfl ?_; intro g3 cap3 X2 hown3 hgrow3 hat3 hlt3; have q2 := hid_of (hb1.out.trans (grown_below hgrow3 hs1.out (fun g hg => by cases hg; exact Nat.le_refl _))); have r2' := ownsRow_keep r2 (w' := X2) (fun q hq => by cases hq; exact hgrow3.block _ (Nat.lt_of_lt_of_le l2 hs1.out) (fun e => by cases e; exact absurd l2 (Nat.lt_irrefl _))); have k1 := grown_cell hgrow3 c1 (fun r hr => by cases hr; exact Nat.ne_of_lt l0); replace hown3 := hid_of hown3; have hg3 := hid_of (ownsRow_ge hown3.out rfl); clear hgrow3 hat3 hlt3 hO r1)
  rw [rounds_succ]
  go_wp2_with (at_builtin; refine wpList_append_lies _ rfl _ _ 103 rfl w.heap.size 128 i5 _ 1 8 Tryz.underlying103 hi5 hz0 hz1 hz2 rfl (by decide) _ 1 [.pointer (some ⟨e1, 0, none⟩)] rfl hown3.out _ 1 cap2 [.pointer (some ⟨e2, 0, none⟩)] rfl rfl (r2'.cells rfl) (by simp [Value.oneCell']) (by decide) (by unfold maxLen; omega) (by omega) q2.out.size _ rfl ?_; intro g4 cap4 X3 hown4 hgrow4 hat4 hlt4; have q3 := hid_of (q2.out.trans (grown_below hgrow4 q2.out.size (fun g hg => by cases hg; exact hg3.out.1))); replace hown4 := hid_of hown4; clear hgrow4 hat4 hlt4)
  rw [rounds_succ]
  go_wp2_with fail
  go_ret
  exact ⟨q3.out, g4, cap4, rfl, hown4.out⟩
end Go.Proofs.YtdghkmgkmfnjjaaGreatDoor
