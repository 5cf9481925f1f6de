import Derived.Test.YtdfkfnhppjhghaaGreatQ6
/-! A document held against a filter. -/
namespace Go.Proofs.YtdfkfnhppjhghaaGreat
open Go Go.RowKit

set_option maxHeartbeats 1000000 in
set_option maxRecDepth 100000 in
theorem missed_one (x : Int) (hx : x = 4 ∨ x = 5) (bp cp bt ct bn cn bi ci bd : Nat) (w : World) (hP : PlaceAt w bp bt) (hD : DocAt w bn bi x) (hd : FiveAt w bd (.int .i64 6) (.int .i64 0) (.string ⟨#[]⟩) (.slice (some ⟨bn, 0, none⟩) 1 cn) (.slice (some ⟨bi, 0, none⟩) 1 ci)) :
    Calls Tryz.prog 44 #[placeV bp cp bt ct, .pointer (some ⟨bd, 0, none⟩)] w fun e w' => e = .returned (.bool (!decide (0 < cmpZ x))) ∧ Below w.heap.size w w' := by
  have hm := hid_of (matches_place x hx bp cp bt ct bn cn bi ci w hP hD)
  obtain ⟨d0, d1, d2, d3, d4⟩ := hd
  clear hP hD
  generalize decide (0 < cmpZ x) = z at *
  unfold objV at hm
  unfold placeV at *
  go_enter Tryz.func44, Tryz.ntmps44
  go_wp2_with fail
  refine hm.out.mono ?_
  rintro e w1 ⟨rfl, hb⟩
  go_wp2_with fail
  go_ret
  exact ⟨rfl, hb⟩
set_option maxHeartbeats 1000000 in
set_option maxRecDepth 100000 in
theorem indexE_one (bq cq bd : Nat) (bp cp bt ct : Nat) (z : Bool) (w : World) (hq : w.cell? ⟨bq, 0, none⟩ = some (placeV bp cp bt ct))
    (hs : Hid (Calls Tryz.prog 44 #[placeV bp cp bt ct, .pointer (some ⟨bd, 0, none⟩)] w fun e w' => e = .returned (.bool (!z)) ∧ Below w.heap.size w w')) :
    Calls Tryz.prog 71 #[.slice (some ⟨bq, 0, none⟩) 1 cq, .func (.func 44) #[] #[.pointer (some ⟨bd, 0, none⟩)]] w fun e w' => e = .returned (.int .i64 (if z then -1 else 0)) ∧ Below w.heap.size w w' := by
  unfold placeV at *
  go_enter Tryz.func71, Tryz.ntmps71
  go_wp2_with fail
  refine wp_loop_rounds 2 ?_
  rw [rounds_succ]
  go_wp2_with fail
  refine hs.out.mono ?_
  rintro e w1 ⟨rfl, hb⟩
  clear hs hq
  cases z
  · go_wp2_with fail
    go_ret
    exact ⟨rfl, hb⟩
  · go_wp2_with fail
    rw [rounds_succ]
    go_wp2_with fail
    go_ret
    exact ⟨rfl, hb⟩
set_option maxHeartbeats 1000000 in
set_option maxRecDepth 100000 in
theorem containsE_one (bq cq bd : Nat) (bp cp bt ct : Nat) (z : Bool) (w : World) (hq : w.cell? ⟨bq, 0, none⟩ = some (placeV bp cp bt ct))
    (hs : Hid (Calls Tryz.prog 44 #[placeV bp cp bt ct, .pointer (some ⟨bd, 0, none⟩)] w fun e w' => e = .returned (.bool (!z)) ∧ Below w.heap.size w w')) :
    Calls Tryz.prog 45 #[.slice (some ⟨bq, 0, none⟩) 1 cq, .func (.func 44) #[] #[.pointer (some ⟨bd, 0, none⟩)]] w fun e w' => e = .returned (.bool (!z)) ∧ Below w.heap.size w w' := by
  have hi := hid_of (indexE_one bq cq bd bp cp bt ct z w hq hs)
  clear hq hs
  go_enter Tryz.func45, Tryz.ntmps45
  go_wp2_with fail
  refine hi.out.mono ?_
  rintro e w1 ⟨rfl, hb⟩
  clear hi
  cases z
  all_goals
    simp only [if_true, Bool.false_eq_true, if_false]
    go_wp2_with fail
    go_ret
    exact ⟨rfl, hb⟩
def everyV (bq cq : Nat) : Value := .iface 76 (.slice (some ⟨bq, 0, none⟩) 1 cq)
/-- The query, in memory. -/
structure QueryAt (w : World) (bq : Nat) : Prop where
  is : ∃ bp cp bt ct, w.cell? ⟨bq, 0, none⟩ = some (placeV bp cp bt ct) ∧ PlaceAt w bp bt
theorem QueryAt.keep {w w' : World} {bq : Nat} (h : QueryAt w bq) (hb : Below w.heap.size w w') : QueryAt w' bq := by
  obtain ⟨bp, cp, bt, ct, h1, h2⟩ := h.is
  exact ⟨bp, cp, bt, ct, stay hb h1, h2.keep hb⟩
set_option maxHeartbeats 2000000 in
set_option maxRecDepth 100000 in
theorem matches_every (x : Int) (hx : x = 4 ∨ x = 5) (bq cq bn cn bi ci : Nat) (w : World) (hQ : QueryAt w bq) (hD : DocAt w bn bi x) :
    Calls Tryz.prog 29 #[everyV bq cq, objV bn cn bi ci] w fun e w' => e = .returned (.bool (decide (0 < cmpZ x))) ∧ Below w.heap.size w w' := by
  have h1 : ∀ w, (Instr.typeAssert (everyV bq cq) 60 76 true).run Tryz.prog w = .ok (.tuple #[.slice (some ⟨bq, 0, none⟩) 1 cq, .bool true]) w := fun w => by kernel_rfl
  have HB : Below w.heap.size w (w.alloc (objC bn cn bi ci)) := (Below.refl _ w).alloc (Nat.le_refl _) _
  have n1 := heap_alloc_new w (objC bn cn bi ci)
  obtain ⟨bp, cp, bt, ct, g1, g2⟩ := hQ.is
  have hc := hid_of (containsE_one bq cq w.heap.size bp cp bt ct (decide (0 < cmpZ x)) _ (stay HB g1) (hid_of (missed_one x hx bp cp bt ct bn cn bi ci w.heap.size _ (g2.keep HB) (hD.keep HB) (five_at n1))))
  clear hQ hD g1 g2 n1
  generalize decide (0 < cmpZ x) = z at *
  unfold objC at hc HB
  unfold objV everyV at *
  go_enter Tryz.func29, Tryz.ntmps29
  go_wp2_with fail
  refine hc.out.mono ?_
  rintro e w1 ⟨rfl, hb⟩
  clear hc
  cases z
  all_goals
    go_wp2_with fail
    go_ret
    exact ⟨rfl, HB.trans (hb.mono HB.size)⟩
/-- The filter, in memory. -/
structure FilterAt (w : World) (bf : Nat) : Prop where
  is : ∃ bq cq, w.cell? ⟨bf, 0, none⟩ = some (everyV bq cq) ∧ w.cell? ⟨bf, 1, none⟩ = some (.int .i64 1) ∧ QueryAt w bq
theorem FilterAt.keep {w w' : World} {bf : Nat} (h : FilterAt w bf) (hb : Below w.heap.size w w') : FilterAt w' bf := by
  obtain ⟨bq, cq, h1, h2, h3⟩ := h.is
  exact ⟨bq, cq, stay hb h1, stay hb h2, h3.keep hb⟩
set_option maxHeartbeats 2000000 in
set_option maxRecDepth 100000 in
theorem match_any (x : Int) (hx : x = 4 ∨ x = 5) (bf bn cn bi ci : Nat) (w : World) (hF : FilterAt w bf) (hD : DocAt w bn bi x) :
    Calls Tryz.prog 10 #[.pointer (some ⟨bf, 0, none⟩), objV bn cn bi ci] w fun e w' => e = .returned (.bool (decide (0 < cmpZ x))) ∧ Below w.heap.size w w' := by
  have HB : Below w.heap.size w (w.alloc (objC bn cn bi ci)) := (Below.refl _ w).alloc (Nat.le_refl _) _
  have n1 := heap_alloc_new w (objC bn cn bi ci)
  obtain ⟨bq, cq, g1, -, g3⟩ := hF.is
  have f1 := stay HB g1
  have hm := fun W (hW : Below (w.alloc (objC bn cn bi ci)).heap.size (w.alloc (objC bn cn bi ci)) W) => hid_of (matches_every x hx bq cq bn cn bi ci W ((g3.keep HB).keep hW) ((hD.keep HB).keep hW))
  clear hF hD g1 g3
  generalize decide (0 < cmpZ x) = z at *
  unfold objC at hm HB n1 f1
  unfold objV everyV at *
  go_enter Tryz.func10, Tryz.ntmps10
  go_wp2_with fail
  generalize w.alloc (.cells #[.int .i64 6, .int .i64 0, .string ⟨#[]⟩, .slice (some ⟨bn, 0, none⟩) 1 cn, .slice (some ⟨bi, 0, none⟩) 1 ci] 28) = X at hm HB n1 f1
  obtain ⟨y0, y1, y2, y3, y4, -⟩ := row_cells n1
  refine wp_region_quiet (C := fun w' => Below X.heap.size X w') (by kernel_rfl) (by kernel_rfl) (below_drewN (Below.refl _ _) 1) ?_
  refine wpQuiet_step (fun K hK => ?_)
  go_simp
  refine ⟨_, fun _ _ => rfl, hK _ ?_⟩
  clear hK K
  refine wpQuiet_step (fun K hK => ?_)
  go_simp
  refine ⟨_, fun _ _ => rfl, hK _ ?_⟩
  clear hK K
  refine wpQuiet_step (fun K hK => ?_)
  go_simp
  refine ⟨_, fun _ _ => rfl, hK _ ?_⟩
  clear hK K
  refine wpQuiet_step (fun K hK => ?_)
  go_simp
  refine ⟨_, fun _ _ => rfl, hK _ ?_⟩
  clear hK K
  refine wpQuiet_step (fun K hK => ?_)
  go_simp
  refine ⟨_, fun _ _ => rfl, hK _ ?_⟩
  clear hK K
  refine wpQuiet_step (fun K hK => ?_)
  go_simp
  refine ⟨_, fun _ _ => rfl, hK _ ?_⟩
  clear hK K
  refine wpQuiet_step (fun K hK => ?_)
  refine ⟨.iface 76 (.slice (some ⟨bq, 0, none⟩) 1 cq), fun w' hw' => ?_, hK _ ?_⟩
  · have t0 := stay hw' f1
    go_simp
  clear hK K
  refine wpQuiet_step (fun K hK => ?_)
  refine ⟨.agg #[.int .i64 6, .int .i64 0, .string ⟨#[]⟩, .slice (some ⟨bn, 0, none⟩) 1 cn, .slice (some ⟨bi, 0, none⟩) 1 ci], fun w' hw' => ?_, hK _ ?_⟩
  · have t0 := stay hw' y0
    have t1 := stay hw' y1
    have t2 := stay hw' y2
    have t3 := stay hw' y3
    have t4 := stay hw' y4
    go_simp
  clear hK K
  refine wpQuiet_step (fun K hK => ?_)
  refine ⟨.bool z, fun w' hw' => ?_, hK _ ?_⟩
  · go_simp
    refine (hm w' hw').out.mono ?_
    rintro e w'' ⟨rfl, hb⟩
    exact ⟨rfl, hw'.trans (hb.mono hw'.size)⟩
  clear hK K
  refine wpQuiet_step (fun K hK => ?_)
  go_simp
  refine ⟨_, fun _ _ => rfl, hK _ ?_⟩
  clear hK K
  refine wpQuiet_step (fun K hK => ?_)
  go_simp
  refine ⟨_, fun _ _ => rfl, hK _ ?_⟩
  clear hK K
  refine wpQuiet_nil ?_
  intro Y hY
  go_wp2_with fail
  go_ret
  exact ⟨rfl, HB.trans (hY.mono HB.size)⟩
theorem terms_any (bf : Nat) (w : World) (hF : FilterAt w bf) : Calls Tryz.prog 12 #[.pointer (some ⟨bf, 0, none⟩)] w fun e w' => e = .returned (.int .i64 1) ∧ w' = w := by
  obtain ⟨bq, cq, -, g2, -⟩ := hF.is
  clear hF
  go_enter Tryz.func12, Tryz.ntmps12
  go_wp2
  go_ret
  exact ⟨rfl, rfl⟩
end Go.Proofs.YtdfkfnhppjhghaaGreat
