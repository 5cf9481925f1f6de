import Derived.Test.YtdghkmgkmfnjjaaGreatDoorJM
/-! Change of two items. -/
namespace Go.Proofs.YtdghkmgkmfnjjaaGreatDoor
open Go Go.RowKit

theorem row14 {w : World} {B : Nat} {cs : Array Value} {t : TypeId} (h : w.heap[B]? = some (.cells cs t (0, 0))) : ∀ j, w.cell? ⟨B, j, none⟩ = cs[j]? := fun j => by simp [World.cell?, h]
theorem has_ab : Maps.has ((DataW.map (H := Unit) []).put (kl ⟨#[98]⟩) (.lit (.int .i64 ((0 : Nat) : Int)))) (kl ⟨#[97]⟩) = false := by decide
theorem has_b : Maps.has (DataW.map (H := Unit) []) (kl ⟨#[98]⟩) = false := by decide
def nowC (bn bi bn' bi' : Nat) : Obj := .cells #[.string ⟨#[98]⟩, .int .i64 0, .int .i64 6, .int .i64 0, .string ⟨#[]⟩, .slice (some ⟨bn, 0, none⟩) 1 1, .slice (some ⟨bi, 0, none⟩) 1 1, .string ⟨#[97]⟩, .int .i64 0, .int .i64 6, .int .i64 0, .string ⟨#[]⟩, .slice (some ⟨bn', 0, none⟩) 1 1, .slice (some ⟨bi', 0, none⟩) 1 1] 58
set_option maxHeartbeats 4000000 in
set_option maxRecDepth 100000 in
theorem change2 (ge gk xb gn bn bi bn' bi' bp cp : Nat) (nm pt : ByteArray) (w : World) (hX : IxAt w xb nm pt false (.slice (some ⟨bp, 0, none⟩) 1 cp) (.slice (some ⟨ge, 0, none⟩) 0 0) (.slice (some ⟨gk, 0, none⟩) 0 0)) (hp : w.cell? ⟨bp, 0, none⟩ = some (.string nameA))
    (hR : w.heap[gn]? = some (nowC bn bi bn' bi')) (hn1 : w.cell? ⟨bn, 0, none⟩ = some (.string nameA)) (hI1 : NumAt w bi 0 5) (hn2 : w.cell? ⟨bn', 0, none⟩ = some (.string nameA)) (hI2 : NumAt w bi' 0 7) :
    Calls Tryz.prog 55 #[.pointer (some ⟨xb, 0, none⟩), .slice none 0 0, .slice (some ⟨gn, 0, none⟩) 2 2] w fun e w' => Below w.heap.size w w' ∧ ∃ yb e1 e2, e = .returned (.tuple #[.pointer (some ⟨yb, 0, none⟩), .string ⟨#[]⟩, .int .i64 0]) ∧ Ix2 w' w.heap.size yb nm pt (.slice (some ⟨bp, 0, none⟩) 1 cp) e1 e2 5 7 ⟨#[98]⟩ ⟨#[97]⟩ := by
  unfold nowC at hR
  go_enter Tryz.func55, Tryz.ntmps55
  go_wp2_with fail
  refine (begin0 xb w).mono ?_
  rintro e X1 ⟨hb1, rfl, hC1, hM1⟩
  have HB1 := hid_of hb1
  have hc := row14 (block_keep hR hb1)
  have z0 := hc 0; have z1 := hc 1; have z2 := hc 2; have z3 := hc 3; have z4 := hc 4; have z5 := hc 5; have z6 := hc 6
  simp only [List.getElem?_toArray, List.getElem?_cons_zero, List.getElem?_cons_succ] at z0 z1 z2 z3 z4 z5 z6
  clear hc
  have hA := (Below.refl _ X1).alloc (Nat.le_refl _) (.cells #[.string ⟨#[98]⟩, .int .i64 0, .int .i64 6, .int .i64 0, .string ⟨#[]⟩, .slice (some ⟨bn, 0, none⟩) 1 1, .slice (some ⟨bi, 0, none⟩) 1 1] 58)
  have hA1 := hb1.trans (hA.mono hb1.size)
  have hl1 := hid_of (lay1 gk ⟨#[98]⟩ (by unfold maxLen; decide) 5 bn 1 bi 1 bp cp (w.heap.size + 2) xb none 0 0 [] rfl w.heap.size (w.heap.size + 1) 0 w.heap.size (.map []) nm pt (.slice (some ⟨ge, 0, none⟩) 0 0) (X1.alloc (.cells #[.string ⟨#[98]⟩, .int .i64 0, .int .i64 6, .int .i64 0, .string ⟨#[]⟩, .slice (some ⟨bn, 0, none⟩) 1 1, .slice (some ⟨bi, 0, none⟩) 1 1] 58)) (hC1.keep hA) (hX.keep hA1) (hM1.keep hA) has_b (by omega) (by omega) (World.ownsRow_nil _ _ _ _) hA1.size (by omega) (Nat.le_refl _) (stay hA1 hn1) (hI1.keep hA1) (stay hA1 hp))
  have FA1 := hid_of (LFr.of_below (B := w.heap.size) hA1 (Nat.le_refl _))
  unfold itemV at hl1
  obtain ⟨cb, hcb⟩ : ∃ q, q = w.heap.size + 2 := ⟨_, rfl⟩
  rw [← hcb] at hl1 ⊢
  replace hcb := hid_of hcb
  clear hC1 hM1 hb1 hA hA1
  replace hX := hid_of hX
  replace hp := hid_of hp
  replace hn2 := hid_of hn2
  replace hI2 := hid_of hI2
  replace hR := hid_of hR
  clear hn1 hI1
  go_wp2_with fail
  refine wp_loop_rounds 3 ?_
  rw [rounds_succ]
  go_wp2_with fail
  refine hl1.out.mono ?_
  rintro e X2 ⟨rfl, F2, gc, cc, g, cap, eb, hC2, hM2, hO2, hr2, hE2⟩
  clear hl1 z0 z1 z2 z3 z4 z5 z6
  have F12 := FA1.out.trans F2
  have hc := row14 (block_keep hR.out F12.below)
  have z0 := hc 7; have z1 := hc 8; have z2 := hc 9; have z3 := hc 10; have z4 := hc 11; have z5 := hc 12; have z6 := hc 13
  simp only [List.getElem?_toArray, List.getElem?_cons_zero, List.getElem?_cons_succ] at z0 z1 z2 z3 z4 z5 z6
  clear hc
  have hA := (Below.refl _ X2).alloc (Nat.le_refl _) (.cells #[.string ⟨#[97]⟩, .int .i64 0, .int .i64 6, .int .i64 0, .string ⟨#[]⟩, .slice (some ⟨bn', 0, none⟩) 1 1, .slice (some ⟨bi', 0, none⟩) 1 1] 58)
  have FA2 := F12.trans (LFr.of_below hA F12.below.size)
  have hl2 := hid_of (lay1 gk ⟨#[97]⟩ (by unfold maxLen; decide) 7 bn' 1 bi' 1 bp cp cb xb (some ⟨gc, 0, none⟩) 1 cc [.slice (some ⟨g, 0, none⟩) 1 cap] rfl w.heap.size (w.heap.size + 1) 1 w.heap.size _ nm pt (.slice (some ⟨ge, 0, none⟩) 0 0) (X2.alloc (.cells #[.string ⟨#[97]⟩, .int .i64 0, .int .i64 6, .int .i64 0, .string ⟨#[]⟩, .slice (some ⟨bn', 0, none⟩) 1 1, .slice (some ⟨bi', 0, none⟩) 1 1] 58)) (hC2.keep hA) (FA2.ix hX.out) (hM2.keep hA) has_ab (by omega) (by omega) (ownsRow_below hO2 hA) FA2.below.size (by have := hcb.out; omega) (Nat.le_refl _) (stay FA2.below hn2.out) (hI2.out.keep FA2.below) (stay FA2.below hp.out))
  have hr2' := hid_of (ownsRow_below hr2 hA)
  have hE2' := hid_of (hE2.keep hA)
  replace FA2 := hid_of FA2
  unfold itemV at hl2
  clear hC2 hM2 hO2 hr2 hE2 F2 F12 hA FA1 hR hn2 hI2
  go_wp2_with fail
  rw [rounds_succ]
  go_wp2_with fail
  refine hl2.out.mono ?_
  rintro e X3 ⟨rfl, F3, gc', cc', g', cap', eb', hC3, hM3, hO3, hr3, hE3⟩
  clear hl2 z0 z1 z2 z3 z4 z5 z6
  have F13 := FA2.out.trans F3
  have hre := hid_of (result2 ge gk cb xb gc' cc' g cap g' cap' eb eb' w.heap.size _ _ w.heap.size (w.heap.size + 1) 5 7 ⟨#[98]⟩ ⟨#[97]⟩ nm pt (some ⟨bp, 0, none⟩) 1 cp X3 hC3 (F13.ix hX.out) hO3 (F3.row hr2'.out (by decide) (by decide)) hr3 (F3.ent hE2'.out) hE3 (by decide) (by decide) (by decide))
  have HB3 := hid_of F13.below
  clear hC3 hM3 hO3 hr3 hE3 F3 F13 FA2 hr2' hE2'
  go_wp2_with fail
  rw [rounds_succ]
  go_wp2_with fail
  refine hre.out.mono ?_
  rintro e X4 ⟨hb4, yb, rfl, hI⟩
  replace hI := hid_of hI
  replace hb4 := hid_of hb4
  clear hre
  go_wp2_with fail
  refine bodyPost_ret (results_tmp3 rfl _ _ _) rfl ?_
  obtain ⟨q1, q2, q3, q4, q5, q6, q7⟩ := hI.out
  exact ⟨HB3.out.trans (hb4.out.mono HB3.out.size), yb, eb, eb', rfl, q1, q2, q3, q4, ownsRow_lo q5 HB3.out.size, q6, q7⟩
end Go.Proofs.YtdghkmgkmfnjjaaGreatDoor
