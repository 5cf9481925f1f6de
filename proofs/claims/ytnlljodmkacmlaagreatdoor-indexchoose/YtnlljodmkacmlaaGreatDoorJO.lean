import Derived.Test.YtnlljodmkacmlaaGreatDoorJL
/-! What a change of two items leads to. -/
namespace Go.Proofs.YtnlljodmkacmlaaGreatDoor
open Go Go.RowKit

/-- An index with two entries. -/
def Ix2 (w : World) (lo yb : Nat) (nm pt : ByteArray) (pv : Value) (e1 e2 : Nat) (x1 x2 : Int) (k1 k2 : ByteArray) : Prop := ∃ g c kv, IxAt w yb nm pt false pv (.slice (some ⟨g, 0, none⟩) 2 c) kv ∧ w.ownsRow lo 104 1 (.slice (some ⟨g, 0, none⟩) 2 c) 2 [.pointer (some ⟨e1, 0, none⟩), .pointer (some ⟨e2, 0, none⟩)] ∧ EntAt w e1 x1 k1 ∧ EntAt w e2 x2 k2
theorem Ix2.keep {w w' : World} {lo yb : Nat} {nm pt : ByteArray} {pv : Value} {e1 e2 : Nat} {x1 x2 : Int} {k1 k2 : ByteArray} (h : Ix2 w lo yb nm pt pv e1 e2 x1 x2 k1 k2) (hb : Below w.heap.size w w') : Ix2 w' lo yb nm pt pv e1 e2 x1 x2 k1 k2 := by
  obtain ⟨g, c, kv, h1, h2, h3, h4⟩ := h
  exact ⟨g, c, kv, h1.keep hb, ownsRow_below h2 hb, h3.keep hb, h4.keep hb⟩
set_option maxHeartbeats 4000000 in
set_option maxRecDepth 100000 in
theorem result2 (cb xb gc cc g1 cap1 g2 cap2 e1 e2 B lo lo' mt mc : Nat) (x1 x2 : Int) (k1 k2 nm pt : ByteArray) (ap : Option Addr) (np cp : Nat) (w : World)
    (hC : ChAt w cb xb (.slice (some ⟨gc, 0, none⟩) 2 cc) mt mc) (hX : IxAt w xb nm pt false (.slice ap np cp) (.slice none 0 0) (.slice none 0 0))
    (hR : w.ownsRow B 68 1 (.slice (some ⟨gc, 0, none⟩) 2 cc) 2 [.slice (some ⟨g1, 0, none⟩) 1 cap1, .slice (some ⟨g2, 0, none⟩) 1 cap2])
    (h1 : w.ownsRow lo 104 1 (.slice (some ⟨g1, 0, none⟩) 1 cap1) 1 [.pointer (some ⟨e1, 0, none⟩)]) (h2 : w.ownsRow lo' 104 1 (.slice (some ⟨g2, 0, none⟩) 1 cap2) 1 [.pointer (some ⟨e2, 0, none⟩)])
    (hE1 : EntAt w e1 x1 k1) (hE2 : EntAt w e2 x2 k2) (hlt : decide (cmpI x2 x1 < 0) = false) (hne : (cmpI x2 x1 != 0) = true) (hls : decide (cmpS k2 k1 < 0) = true) :
    Calls Tryz.prog 24 #[.pointer (some ⟨cb, 0, none⟩)] w fun e w' => Below w.heap.size w w' ∧ ∃ yb, e = .returned (.pointer (some ⟨yb, 0, none⟩)) ∧ Ix2 w' w.heap.size yb nm pt (.slice ap np cp) e1 e2 x1 x2 k1 k2 := by
  obtain ⟨c0, c1, c2, -, -, -⟩ := hC.cells
  obtain ⟨y0, y1, y2, y3, y4, y5⟩ := hX.cells
  have hcc := hid_of (fun W (hW : Below w.heap.size w W) => concat2 gc cc g1 cap1 g2 cap2 e1 e2 B lo lo' W (ownsRow_below hR hW) (ownsRow_below h1 hW) (ownsRow_below h2 hW))
  clear hC hX hR h1 h2
  go_enter Tryz.func24, Tryz.ntmps24
  go_wp2_with fail
  go_region_held3 (fun W => W.cell? ⟨cb, 0, none⟩ = some (.pointer (some ⟨xb, 0, none⟩)) ∧ W.cell? ⟨cb, 2, none⟩ = some (.slice (some ⟨gc, 0, none⟩) 2 cc)) (go_keep) ((go_at_call 45; refine (hcc.out _ (below_drewN (Below.refl _ _) 1)).mono ?_; rintro e X1 ⟨hb', g3, cap3, rfl, hO⟩; have hb : Below w.heap.size w X1 := (below_drewN (Below.refl _ w) 1).trans hb'; clear hb'; have j0 := stay hb c0; have j1 := stay hb c2; replace hO := hid_of hO; replace hb := hid_of hb))
  have u0 := j0
  have u1 := stay hb.out c1
  have v0 := stay hb.out y0
  have v1 := stay hb.out y1
  have v2 := stay hb.out y2
  have v3 := stay hb.out y3
  have v4 := stay hb.out y4
  have v5 := stay hb.out y5
  have r0 : X1.cell? ⟨g3, 0, none⟩ = some (.pointer (some ⟨e1, 0, none⟩)) := hO.out.cellAt 0 (by simp)
  have r1 : X1.cell? ⟨g3, 1, none⟩ = some (.pointer (some ⟨e2, 0, none⟩)) := hO.out.cellAt 1 (by simp)
  have hV := hid_of (fun W (hW : Below X1.heap.size X1 W) => edited2V g3 cap3 e1 e2 x1 x2 k1 k2 W ((hE1.keep hb.out).keep hW) ((hE2.keep hb.out).keep hW) (stay hW r0) (stay hW r1) hlt hne)
  have hK := hid_of (fun W (hW : Below X1.heap.size X1 W) => edited2K g3 cap3 e1 e2 x1 x2 k1 k2 W ((hE1.keep hb.out).keep hW) ((hE2.keep hb.out).keep hW) (stay hW r0) (stay hW r1) hls)
  clear j0 j1 c0 c1 c2 y0 y1 y2 y3 y4 y5 hcc r0 r1 hO hlt hne hls
  go_wp2_with fail
  go_region_held3 (fun W => W.cell? ⟨cb, 1, none⟩ = some (.slice none 0 0) ∧ W.cell? ⟨xb, 0, none⟩ = some (.string nm) ∧ W.cell? ⟨xb, 1, none⟩ = some (.string pt) ∧ W.cell? ⟨xb, 2, none⟩ = some (.bool false) ∧ W.cell? ⟨xb, 3, none⟩ = some (.slice ap np cp) ∧ W.cell? ⟨xb, 4, none⟩ = some (.slice none 0 0) ∧ W.cell? ⟨xb, 5, none⟩ = some (.slice none 0 0)) (go_keep) (first
    | (go_at_call 46; (with_reducible refine (hK.out X2 hb2.out).mono ?_); rintro e X3 ⟨hb3', g5, cap5, rfl, -⟩; have hb3 : Below X1.heap.size X1 X3 := hb2.out.trans (hb3'.mono hb2.out.size); have hO5 := hid_of (ownsRow_below hO4.out hb3'); clear hb3'; have q1 := stay hb3 u1; have s0 := stay hb3 v0; have s1 := stay hb3 v1; have s2 := stay hb3 v2; have s3 := stay hb3 v3; have s4 := stay hb3 v4; have s5 := stay hb3 v5; replace hb3 := hid_of hb3)
    | (go_at_call 46; (with_reducible refine (hV.out X1.drew (below_drew (Below.refl _ _))).mono ?_); rintro e X2 ⟨hb2', g4, cap4, rfl, hO4⟩; have hb2 : Below X1.heap.size X1 X2 := (below_drew (Below.refl _ X1)).trans hb2'; clear hb2'; have z1 := stay hb2 u1; have t0 := stay hb2 v0; have t1 := stay hb2 v1; have t2 := stay hb2 v2; have t3 := stay hb2 v3; have t4 := stay hb2 v4; have t5 := stay hb2 v5; replace hO4 := hid_of hO4; replace hb2 := hid_of hb2))
  go_wp2_with fail
  go_ret
  have hB3 := hb.out.trans (hb3.out.mono hb.out.size)
  refine ⟨hB3.alloc hB3.size _, _, rfl, g4, cap4, _, heap_alloc_new _ _, ownsRow_below (ownsRow_lo hO5.out hb.out.size) ((Below.refl _ _).alloc (Nat.le_refl _) _), (hE1.keep hB3).keep ((Below.refl _ _).alloc (Nat.le_refl _) _), (hE2.keep hB3).keep ((Below.refl _ _).alloc (Nat.le_refl _) _)⟩
end Go.Proofs.YtnlljodmkacmlaaGreatDoor
/-! Change of two items. -/
namespace Go.Proofs.YtnlljodmkacmlaaGreatDoor
open Go Go.RowKit

theorem row14 {w : World} {B : Nat} {cs : Array Value} {t : TypeId} (h : w.heap[B]? = some (.cells cs t (0, 0))) : ∀ j, w.cell? ⟨B, j, none⟩ = cs[j]? := fun j => by simp [World.cell?, h]
theorem has_ab : Maps.has ((DataW.map (H := Unit) []).put (kl ⟨#[98]⟩) (.lit (.int .i64 ((0 : Nat) : Int)))) (kl ⟨#[97]⟩) = false := by decide
theorem has_b : Maps.has (DataW.map (H := Unit) []) (kl ⟨#[98]⟩) = false := by decide
def nowC (bn bi bn' bi' : Nat) : Obj := .cells #[.string ⟨#[98]⟩, .int .i64 0, .int .i64 6, .int .i64 0, .string ⟨#[]⟩, .slice (some ⟨bn, 0, none⟩) 1 1, .slice (some ⟨bi, 0, none⟩) 1 1, .string ⟨#[97]⟩, .int .i64 0, .int .i64 6, .int .i64 0, .string ⟨#[]⟩, .slice (some ⟨bn', 0, none⟩) 1 1, .slice (some ⟨bi', 0, none⟩) 1 1] 60
set_option maxHeartbeats 4000000 in
set_option maxRecDepth 100000 in
theorem change2 (xb gn bn bi bn' bi' bp cp : Nat) (nm pt : ByteArray) (w : World) (hX : IxAt w xb nm pt false (.slice (some ⟨bp, 0, none⟩) 1 cp) (.slice none 0 0) (.slice none 0 0)) (hp : w.cell? ⟨bp, 0, none⟩ = some (.string nameA))
    (hR : w.heap[gn]? = some (nowC bn bi bn' bi')) (hn1 : w.cell? ⟨bn, 0, none⟩ = some (.string nameA)) (hI1 : NumAt w bi 0 5) (hn2 : w.cell? ⟨bn', 0, none⟩ = some (.string nameA)) (hI2 : NumAt w bi' 0 7) :
    Calls Tryz.prog 8 #[.pointer (some ⟨xb, 0, none⟩), .slice none 0 0, .slice (some ⟨gn, 0, none⟩) 2 2] w fun e w' => Below w.heap.size w w' ∧ ∃ yb e1 e2, e = .returned (.tuple #[.pointer (some ⟨yb, 0, none⟩), .string ⟨#[]⟩, .int .i64 0]) ∧ Ix2 w' w.heap.size yb nm pt (.slice (some ⟨bp, 0, none⟩) 1 cp) e1 e2 5 7 ⟨#[98]⟩ ⟨#[97]⟩ := by
  unfold nowC at hR
  go_enter Tryz.func8, Tryz.ntmps8
  go_wp2_with fail
  refine (begin0 xb w).mono ?_
  rintro e X1 ⟨hb1, rfl, hC1, hM1⟩
  have HB1 := hid_of hb1
  have hc := row14 (block_keep hR hb1)
  have z0 := hc 0; have z1 := hc 1; have z2 := hc 2; have z3 := hc 3; have z4 := hc 4; have z5 := hc 5; have z6 := hc 6
  simp only [List.getElem?_toArray, List.getElem?_cons_zero, List.getElem?_cons_succ] at z0 z1 z2 z3 z4 z5 z6
  clear hc
  have hA := (Below.refl _ X1).alloc (Nat.le_refl _) (.cells #[.string ⟨#[98]⟩, .int .i64 0, .int .i64 6, .int .i64 0, .string ⟨#[]⟩, .slice (some ⟨bn, 0, none⟩) 1 1, .slice (some ⟨bi, 0, none⟩) 1 1] 60)
  have hA1 := hb1.trans (hA.mono hb1.size)
  have hl1 := hid_of (lay1 ⟨#[98]⟩ (by unfold maxLen; decide) 5 bn 1 bi 1 bp cp (w.heap.size + 2) xb none 0 0 [] rfl w.heap.size (w.heap.size + 1) 0 w.heap.size (.map []) nm pt (.slice none 0 0) (X1.alloc (.cells #[.string ⟨#[98]⟩, .int .i64 0, .int .i64 6, .int .i64 0, .string ⟨#[]⟩, .slice (some ⟨bn, 0, none⟩) 1 1, .slice (some ⟨bi, 0, none⟩) 1 1] 60)) (hC1.keep hA) (hX.keep hA1) (hM1.keep hA) has_b (by omega) (by omega) (World.ownsRow_nil _ _ _ _) hA1.size (by omega) (Nat.le_refl _) (stay hA1 hn1) (hI1.keep hA1) (stay hA1 hp))
  have FA1 := hid_of (LFr.of_below (B := w.heap.size) hA1 (Nat.le_refl _))
  unfold itemV at hl1
  obtain ⟨cb, hcb⟩ : ∃ q, q = w.heap.size + 2 := ⟨_, rfl⟩
  rw [← hcb] at hl1 ⊢
  replace hcb := hid_of hcb
  clear hC1 hM1 hb1 hA hA1
  replace hX := hid_of hX
  replace hp := hid_of hp
  replace hn2 := hid_of hn2
  replace hI2 := hid_of hI2
  replace hR := hid_of hR
  clear hn1 hI1
  go_wp2_with fail
  refine wp_loop_rounds 3 ?_
  rw [rounds_succ]
  go_wp2_with fail
  refine hl1.out.mono ?_
  rintro e X2 ⟨rfl, F2, gc, cc, g, cap, eb, hC2, hM2, hO2, hr2, hE2⟩
  clear hl1 z0 z1 z2 z3 z4 z5 z6
  have F12 := FA1.out.trans F2
  have hc := row14 (block_keep hR.out F12.below)
  have z0 := hc 7; have z1 := hc 8; have z2 := hc 9; have z3 := hc 10; have z4 := hc 11; have z5 := hc 12; have z6 := hc 13
  simp only [List.getElem?_toArray, List.getElem?_cons_zero, List.getElem?_cons_succ] at z0 z1 z2 z3 z4 z5 z6
  clear hc
  have hA := (Below.refl _ X2).alloc (Nat.le_refl _) (.cells #[.string ⟨#[97]⟩, .int .i64 0, .int .i64 6, .int .i64 0, .string ⟨#[]⟩, .slice (some ⟨bn', 0, none⟩) 1 1, .slice (some ⟨bi', 0, none⟩) 1 1] 60)
  have FA2 := F12.trans (LFr.of_below hA F12.below.size)
  have hl2 := hid_of (lay1 ⟨#[97]⟩ (by unfold maxLen; decide) 7 bn' 1 bi' 1 bp cp cb xb (some ⟨gc, 0, none⟩) 1 cc [.slice (some ⟨g, 0, none⟩) 1 cap] rfl w.heap.size (w.heap.size + 1) 1 w.heap.size _ nm pt (.slice none 0 0) (X2.alloc (.cells #[.string ⟨#[97]⟩, .int .i64 0, .int .i64 6, .int .i64 0, .string ⟨#[]⟩, .slice (some ⟨bn', 0, none⟩) 1 1, .slice (some ⟨bi', 0, none⟩) 1 1] 60)) (hC2.keep hA) (FA2.ix hX.out) (hM2.keep hA) has_ab (by omega) (by omega) (ownsRow_below hO2 hA) FA2.below.size (by have := hcb.out; omega) (Nat.le_refl _) (stay FA2.below hn2.out) (hI2.out.keep FA2.below) (stay FA2.below hp.out))
  have hr2' := hid_of (ownsRow_below hr2 hA)
  have hE2' := hid_of (hE2.keep hA)
  replace FA2 := hid_of FA2
  unfold itemV at hl2
  clear hC2 hM2 hO2 hr2 hE2 F2 F12 hA FA1 hR hn2 hI2
  go_wp2_with fail
  rw [rounds_succ]
  go_wp2_with fail
  refine hl2.out.mono ?_
  rintro e X3 ⟨rfl, F3, gc', cc', g', cap', eb', hC3, hM3, hO3, hr3, hE3⟩
  clear hl2 z0 z1 z2 z3 z4 z5 z6
  have F13 := FA2.out.trans F3
  have hre := hid_of (result2 cb xb gc' cc' g cap g' cap' eb eb' w.heap.size _ _ w.heap.size (w.heap.size + 1) 5 7 ⟨#[98]⟩ ⟨#[97]⟩ nm pt (some ⟨bp, 0, none⟩) 1 cp X3 hC3 (F13.ix hX.out) hO3 (F3.row hr2'.out (by decide) (by decide)) hr3 (F3.ent hE2'.out) hE3 (by decide) (by decide) (by decide))
  have HB3 := hid_of F13.below
  clear hC3 hM3 hO3 hr3 hE3 F3 F13 FA2 hr2' hE2'
  go_wp2_with fail
  rw [rounds_succ]
  go_wp2_with fail
  refine hre.out.mono ?_
  rintro e X4 ⟨hb4, yb, rfl, hI⟩
  replace hI := hid_of hI
  replace hb4 := hid_of hb4
  clear hre
  go_wp2_with fail
  refine bodyPost_ret (results_tmp3 rfl _ _ _) rfl ?_
  obtain ⟨q1, q2, q3, q4, q5, q6, q7⟩ := hI.out
  exact ⟨HB3.out.trans (hb4.out.mono HB3.out.size), yb, eb, eb', rfl, q1, q2, q3, q4, ownsRow_lo q5 HB3.out.size, q6, q7⟩
end Go.Proofs.YtnlljodmkacmlaaGreatDoor
/-! A number is checked. -/
namespace Go.Proofs.YtnlljodmkacmlaaGreatDoor
open Go Go.RowKit

theorem box0 (x : Int) (w : World) : FiveAt (w.alloc (.cells #[.int .i64 3, .int .i64 x, .string ⟨#[]⟩, .slice none 0 0, .slice none 0 0] 28)) w.heap.size (.int .i64 3) (.int .i64 x) (.string ⟨#[]⟩) (.slice none 0 0) (.slice none 0 0) := five_at (heap_alloc_new w _)
set_option maxHeartbeats 1000000 in
theorem nest3 (w : World) : Calls Tryz.prog 141 #[.int .i64 3] w fun e w' => e = .returned (.bool false) ∧ w' = w := by
  go_enter Tryz.func141, Tryz.ntmps141
  go_wp2_with fail
  go_ret
  exact ⟨rfl, rfl⟩
set_option maxHeartbeats 1000000 in
theorem deepest3 (w : World) : Calls Tryz.prog 115 #[.int .i64 3] w fun e w' => e = .returned (.int .i64 64) ∧ w' = w := by
  go_enter Tryz.func115, Tryz.ntmps115
  go_wp2_with fail
  refine (nest3 _).mono ?_
  rintro e w1 ⟨rfl, rfl⟩
  go_wp2_with fail
  go_ret
  exact ⟨rfl, rfl⟩
set_option maxHeartbeats 1000000 in
set_option maxRecDepth 100000 in
theorem valid0 (w : World) : Calls Tryz.prog 117 #[.string ⟨#[]⟩] w fun e w' => e = .returned (.bool true) ∧ w' = w := by
  go_enter Tryz.func117, Tryz.ntmps117
  go_wp2_with fail
  go_loopw [0] (fun s wr => s = .string ⟨#[]⟩ ∧ wr = w) (fun _ _ => 0)
  case atStart => exact ⟨rfl, rfl⟩
  case round =>
    obtain ⟨rfl, rfl⟩ := hrel
    go_wp2_with fail
    go_ret
    exact ⟨rfl, rfl⟩
set_option maxHeartbeats 1000000 in
theorem keeps1 (x : Int) (hx : x = 0 ∨ x = 6) (w : World) : Calls Tryz.prog 116 #[.agg #[.int .i64 3, .int .i64 x, .string ⟨#[]⟩, .slice none 0 0, .slice none 0 0]] w fun e w' => e = .returned (.bool true) ∧ Below w.heap.size w w' := by
  rcases hx with rfl | rfl
  all_goals
    go_enter Tryz.func116, Tryz.ntmps116
    go_wp2_with fail
    go_ret
    exact ⟨rfl, (Below.refl _ w).alloc (Nat.le_refl _) _⟩
set_option maxHeartbeats 1000000 in
set_option maxRecDepth 100000 in
theorem alone1 (x : Int) (hx : x = 0 ∨ x = 6) (w : World) : Calls Tryz.prog 81 #[.agg #[.int .i64 3, .int .i64 x, .string ⟨#[]⟩, .slice none 0 0, .slice none 0 0], .int .i64 0] w fun e w' => e = .returned (.int .i64 0) ∧ Below w.heap.size w w' := by
  go_enter Tryz.func81, Tryz.ntmps81
  go_wp2_with (go_at_call 115; refine (deepest3 _).mono ?_; rintro e w' ⟨rfl, rfl⟩)
  refine (keeps1 x hx _).mono ?_
  rintro e w1 ⟨rfl, hb1⟩
  have z2 : w1.cell? ⟨w.heap.size, 2, none⟩ = some (.string ⟨#[]⟩) := (stay hb1 (box0 x w).2.2.1)
  have z0 : w1.cell? ⟨w.heap.size, 0, none⟩ = some (.int .i64 3) := (stay hb1 (box0 x w).1)
  go_wp2_with fail
  refine (valid0 _).mono ?_
  rintro e w2 ⟨rfl, rfl⟩
  go_wp2_with fail
  go_ret
  exact ⟨rfl, (((Below.refl _ w).alloc (Nat.le_refl _) _).trans (hb1.mono (by simp)))⟩
set_option maxHeartbeats 1000000 in
set_option maxRecDepth 100000 in
theorem checkAt1 (x : Int) (hx : x = 0 ∨ x = 6) (w : World) : Calls Tryz.prog 50 #[.agg #[.int .i64 3, .int .i64 x, .string ⟨#[]⟩, .slice none 0 0, .slice none 0 0], .int .i64 0] w fun e w' => e = .returned (.int .i64 0) ∧ Below w.heap.size w w' := by
  go_enter Tryz.func50, Tryz.ntmps50
  go_wp2_with fail
  refine (alone1 x hx _).mono ?_
  rintro e w1 ⟨rfl, hb1⟩
  have z0 : w1.cell? ⟨w.heap.size, 0, none⟩ = some (.int .i64 3) := (stay hb1 (box0 x w).1)
  have z4 : w1.cell? ⟨w.heap.size, 4, none⟩ = some (.slice none 0 0) := (stay hb1 (box0 x w).2.2.2.2)
  go_wp2_with fail
  go_loopw [24] (fun i wr => i = .int .i64 0 ∧ wr = w1) (fun _ _ => 0)
  case atStart => exact ⟨rfl, rfl⟩
  case round =>
    obtain ⟨rfl, rfl⟩ := hrel
    go_wp2_with fail
    go_ret
    exact ⟨rfl, (((Below.refl _ w).alloc (Nat.le_refl _) _).trans (hb1.mono (by simp)))⟩
set_option maxHeartbeats 1000000 in
theorem check1 (x : Int) (hx : x = 0 ∨ x = 6) (w : World) : Calls Tryz.prog 26 #[.agg #[.int .i64 3, .int .i64 x, .string ⟨#[]⟩, .slice none 0 0, .slice none 0 0]] w fun e w' => e = .returned (.int .i64 0) ∧ Below w.heap.size w w' := by
  go_enter Tryz.func26, Tryz.ntmps26
  go_wp2_with fail
  refine (checkAt1 x hx _).mono ?_
  rintro e w1 ⟨rfl, hb1⟩
  go_wp2_with fail
  go_ret
  exact ⟨rfl, by first | exact hb1 | exact (((Below.refl _ w).alloc (Nat.le_refl _) _).trans (hb1.mono (by simp)))⟩
end Go.Proofs.YtnlljodmkacmlaaGreatDoor
