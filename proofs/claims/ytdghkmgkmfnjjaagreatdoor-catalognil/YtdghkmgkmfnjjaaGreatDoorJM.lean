import Derived.Test.YtdghkmgkmfnjjaaGreatDoorJL
/-! What a change of two items leads to. -/
namespace Go.Proofs.YtdghkmgkmfnjjaaGreatDoor
open Go Go.RowKit

/-- An index with two entries. -/
def Ix2 (w : World) (lo yb : Nat) (nm pt : ByteArray) (pv : Value) (e1 e2 : Nat) (x1 x2 : Int) (k1 k2 : ByteArray) : Prop := ∃ g c kv, IxAt w yb nm pt false pv (.slice (some ⟨g, 0, none⟩) 2 c) kv ∧ w.ownsRow lo 128 1 (.slice (some ⟨g, 0, none⟩) 2 c) 2 [.pointer (some ⟨e1, 0, none⟩), .pointer (some ⟨e2, 0, none⟩)] ∧ EntAt w e1 x1 k1 ∧ EntAt w e2 x2 k2
theorem Ix2.keep {w w' : World} {lo yb : Nat} {nm pt : ByteArray} {pv : Value} {e1 e2 : Nat} {x1 x2 : Int} {k1 k2 : ByteArray} (h : Ix2 w lo yb nm pt pv e1 e2 x1 x2 k1 k2) (hb : Below w.heap.size w w') : Ix2 w' lo yb nm pt pv e1 e2 x1 x2 k1 k2 := by
  obtain ⟨g, c, kv, h1, h2, h3, h4⟩ := h
  exact ⟨g, c, kv, h1.keep hb, ownsRow_below h2 hb, h3.keep hb, h4.keep hb⟩
set_option maxHeartbeats 4000000 in
set_option maxRecDepth 100000 in
theorem result2 (ge gk cb xb gc cc g1 cap1 g2 cap2 e1 e2 B lo lo' mt mc : Nat) (x1 x2 : Int) (k1 k2 nm pt : ByteArray) (ap : Option Addr) (np cp : Nat) (w : World)
    (hC : ChAt w cb xb (.slice (some ⟨gc, 0, none⟩) 2 cc) mt mc) (hX : IxAt w xb nm pt false (.slice ap np cp) (.slice (some ⟨ge, 0, none⟩) 0 0) (.slice (some ⟨gk, 0, none⟩) 0 0))
    (hR : w.ownsRow B 103 1 (.slice (some ⟨gc, 0, none⟩) 2 cc) 2 [.slice (some ⟨g1, 0, none⟩) 1 cap1, .slice (some ⟨g2, 0, none⟩) 1 cap2])
    (h1 : w.ownsRow lo 128 1 (.slice (some ⟨g1, 0, none⟩) 1 cap1) 1 [.pointer (some ⟨e1, 0, none⟩)]) (h2 : w.ownsRow lo' 128 1 (.slice (some ⟨g2, 0, none⟩) 1 cap2) 1 [.pointer (some ⟨e2, 0, none⟩)])
    (hE1 : EntAt w e1 x1 k1) (hE2 : EntAt w e2 x2 k2) (hlt : decide (cmpI x2 x1 < 0) = false) (hne : (cmpI x2 x1 != 0) = true) (hls : decide (cmpS k2 k1 < 0) = true) :
    Calls Tryz.prog 89 #[.pointer (some ⟨cb, 0, none⟩)] w fun e w' => Below w.heap.size w w' ∧ ∃ yb, e = .returned (.pointer (some ⟨yb, 0, none⟩)) ∧ Ix2 w' w.heap.size yb nm pt (.slice ap np cp) e1 e2 x1 x2 k1 k2 := by
  obtain ⟨c0, c1, c2, -, -, -⟩ := hC.cells
  obtain ⟨y0, y1, y2, y3, y4, y5⟩ := hX.cells
  have hcc := hid_of (fun W (hW : Below w.heap.size w W) => concat2 gc cc g1 cap1 g2 cap2 e1 e2 B lo lo' W (ownsRow_below hR hW) (ownsRow_below h1 hW) (ownsRow_below h2 hW))
  clear hC hX hR h1 h2
  go_enter Tryz.func89, Tryz.ntmps89
  go_wp2_with fail
  go_region_held3 (fun W => W.cell? ⟨cb, 0, none⟩ = some (.pointer (some ⟨xb, 0, none⟩)) ∧ W.cell? ⟨cb, 2, none⟩ = some (.slice (some ⟨gc, 0, none⟩) 2 cc)) (go_keep) ((go_at_call 131; refine (hcc.out _ (below_drewN (Below.refl _ _) 1)).mono ?_; rintro e X1 ⟨hb', g3, cap3, rfl, hO⟩; have hb : Below w.heap.size w X1 := (below_drewN (Below.refl _ w) 1).trans hb'; clear hb'; have j0 := stay hb c0; have j1 := stay hb c2; replace hO := hid_of hO; replace hb := hid_of hb))
  have u0 := j0
  have u1 := stay hb.out c1
  have v0 := stay hb.out y0
  have v1 := stay hb.out y1
  have v2 := stay hb.out y2
  have v3 := stay hb.out y3
  have v4 := stay hb.out y4
  have v5 := stay hb.out y5
  have r0 : X1.cell? ⟨g3, 0, none⟩ = some (.pointer (some ⟨e1, 0, none⟩)) := hO.out.cellAt 0 (by simp)
  have r1 : X1.cell? ⟨g3, 1, none⟩ = some (.pointer (some ⟨e2, 0, none⟩)) := hO.out.cellAt 1 (by simp)
  have hV := hid_of (fun W (hW : Below X1.heap.size X1 W) => edited2V ge g3 cap3 e1 e2 x1 x2 k1 k2 W ((hE1.keep hb.out).keep hW) ((hE2.keep hb.out).keep hW) (stay hW r0) (stay hW r1) hlt hne)
  have hK := hid_of (fun W (hW : Below X1.heap.size X1 W) => edited2K gk g3 cap3 e1 e2 x1 x2 k1 k2 W ((hE1.keep hb.out).keep hW) ((hE2.keep hb.out).keep hW) (stay hW r0) (stay hW r1) hls)
  clear j0 j1 c0 c1 c2 y0 y1 y2 y3 y4 y5 hcc r0 r1 hO hlt hne hls
  go_wp2_with fail
  go_region_held3 (fun W => W.cell? ⟨cb, 1, none⟩ = some (.slice none 0 0) ∧ W.cell? ⟨xb, 0, none⟩ = some (.string nm) ∧ W.cell? ⟨xb, 1, none⟩ = some (.string pt) ∧ W.cell? ⟨xb, 2, none⟩ = some (.bool false) ∧ W.cell? ⟨xb, 3, none⟩ = some (.slice ap np cp) ∧ W.cell? ⟨xb, 4, none⟩ = some (.slice (some ⟨ge, 0, none⟩) 0 0) ∧ W.cell? ⟨xb, 5, none⟩ = some (.slice (some ⟨gk, 0, none⟩) 0 0)) (go_keep) (first
    | (go_at_call 132; (with_reducible refine (hK.out X2 hb2.out).mono ?_); rintro e X3 ⟨hb3', g5, cap5, rfl, -⟩; have hb3 : Below X1.heap.size X1 X3 := hb2.out.trans (hb3'.mono hb2.out.size); have hO5 := hid_of (ownsRow_below hO4.out hb3'); clear hb3'; have q1 := stay hb3 u1; have s0 := stay hb3 v0; have s1 := stay hb3 v1; have s2 := stay hb3 v2; have s3 := stay hb3 v3; have s4 := stay hb3 v4; have s5 := stay hb3 v5; replace hb3 := hid_of hb3)
    | (go_at_call 132; (with_reducible refine (hV.out X1.drew (below_drew (Below.refl _ _))).mono ?_); rintro e X2 ⟨hb2', g4, cap4, rfl, hO4⟩; have hb2 : Below X1.heap.size X1 X2 := (below_drew (Below.refl _ X1)).trans hb2'; clear hb2'; have z1 := stay hb2 u1; have t0 := stay hb2 v0; have t1 := stay hb2 v1; have t2 := stay hb2 v2; have t3 := stay hb2 v3; have t4 := stay hb2 v4; have t5 := stay hb2 v5; replace hO4 := hid_of hO4; replace hb2 := hid_of hb2))
  go_wp2_with fail
  go_ret
  have hB3 := hb.out.trans (hb3.out.mono hb.out.size)
  refine ⟨hB3.alloc hB3.size _, _, rfl, g4, cap4, _, heap_alloc_new _ _, ownsRow_below (ownsRow_lo hO5.out hb.out.size) ((Below.refl _ _).alloc (Nat.le_refl _) _), (hE1.keep hB3).keep ((Below.refl _ _).alloc (Nat.le_refl _) _), (hE2.keep hB3).keep ((Below.refl _ _).alloc (Nat.le_refl _) _)⟩
end Go.Proofs.YtdghkmgkmfnjjaaGreatDoor
