import Derived.Test.YtgigikcopedoeaaGreatW6
/-! Apply. -/
namespace Go.Proofs.YtgigikcopedoeaaGreat
open Go Go.RowKit

set_option maxHeartbeats 4000000 in
set_option maxRecDepth 100000 in
theorem apply_a (fb tb bn cn bi ci : Nat) (x : Int) (w : World) (hF : FieldsAt2 w fb tb) (hn : w.cell? ⟨bn, 0, none⟩ = some (.string nameA)) (hI : NumAt w bi 0 x) :
    Calls Tryz.prog 11 #[.pointer (some ⟨fb, 0, none⟩), objV bn cn bi ci] w fun e w' => e = .returned emptyV ∧ Below w.heap.size w w' := by
  have HB : Below w.heap.size w ((w.alloc (objC bn cn bi ci)).alloc zeroO) := ((Below.refl _ w).alloc (Nat.le_refl _) _).alloc (by simp) _
  have m1 := new1 w (objC bn cn bi ci) zeroO
  have m2 := new2 w (objC bn cn bi ci) zeroO
  have hF0 := hF.keep HB
  have hn0 := stay HB hn
  have hI0 := hI.keep HB
  clear hF hn hI
  unfold objC zeroO at HB m1 m2 hF0 hn0 hI0
  unfold objV at *
  go_enter Tryz.func11, Tryz.ntmps11
  go_upto_region 1 with fail
  generalize (w.alloc (.cells #[.int .i64 6, .int .i64 0, .string ⟨#[]⟩, .slice (some ⟨bn, 0, none⟩) 1 cn, .slice (some ⟨bi, 0, none⟩) 1 ci] 25)).alloc (.cells #[.int .i64 0, .int .i64 0, .string ⟨#[]⟩, .slice none 0 0, .slice none 0 0] 25) = X0 at HB m1 m2 hF0 hn0 hI0
  have ho := hid_of (told_a fb tb bn cn bi ci x X0.drew (hF0.keep (below_drew (Below.refl _ _))) hn0 (hI0.keep (below_drew (Below.refl _ _))))
  unfold objV emptyV at ho
  obtain ⟨hbx, mb, pb, nb, hT, hp, hne⟩ := hF0
  have cF : X0.cell? ⟨fb, 1, none⟩ = some (.pointer (some ⟨tb, 0, none⟩)) := by simp [World.cell?, hbx]
  have hends := hid_of (ends_any tb mb _ false X0 hT rfl)
  obtain ⟨y0, y1, y2, y3, y4, -⟩ := row_cells m1
  replace m2 := hid_of m2
  clear hbx hT hp hne hn0 hI0 m1
  go_wp2_with (go_at_call 31; refine hends.out.mono ?_; rintro e X1 ⟨rfl, rfl⟩)
  go_region_with (go_at_call 32; go_fit ho.out; clear ho; rintro e Z2 ⟨rfl, hb'⟩; have hb : Below X1.heap.size X1 Z2 := (below_drew (Below.refl _ _)).trans hb'; clear hb'; have nZ2 := block_keep m2.out hb; obtain ⟨r0, r1, r2, r3, r4, rf⟩ := row_cells nZ2; have rf0 := rf 0; have rf1 := rf 1; have rf2 := rf 2; have rf3 := rf 3; have rf4 := rf 4; clear rf)
  all_goals
    go_wp2_with fail
    have hr := put5_cells nZ2 (.int .i64 6) (.int .i64 0) (.string ⟨#[]⟩) (.slice none 0 0) (.slice none 0 0)
    have q0 := hr 0; have q1 := hr 1; have q2 := hr 2; have q3 := hr 3; have q4 := hr 4
    clear hr
    refine bodyPost_ret (v := .agg #[.int .i64 6, .int .i64 0, .string ⟨#[]⟩, .slice none 0 0, .slice none 0 0]) (by simp [results, Tryz.results11, go_sem, q0, q1, q2, q3, q4]) rfl ?_
    exact ⟨rfl, (HB.trans (hb.mono HB.size)).trans (put5_below (by omega) _ _ _ _ _)⟩
end Go.Proofs.YtgigikcopedoeaaGreat
