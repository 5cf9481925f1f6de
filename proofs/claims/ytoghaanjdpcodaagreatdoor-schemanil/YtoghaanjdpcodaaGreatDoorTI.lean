import Derived.Test.YtoghaanjdpcodaaGreatDoorTH
/-! schema: Fault of {"n": 0}; live. -/
namespace Go.Proofs.YtoghaanjdpcodaaGreatDoor
open Go Go.RowKit

set_option maxHeartbeats 4000000 in
set_option maxRecDepth 100000 in
theorem fault_live (sb r0 p0 c0 mb r1 p1 c1 r2 p2 c2 bn bi : Nat) (w : World) (hL : LiveAt w sb r0 p0 c0 mb r1 p1 c1 r2 p2 c2) (hD : DocN w bn bi 0) :
    Calls Tryz.prog 4 #[.pointer (some ⟨sb, 0, none⟩), (objU bn bi).v] w fun e w' => Below w.heap.size w w' ∧ ∃ g c, e = .returned (.tuple #[.slice (some ⟨g, 0, none⟩) 1 c, .string wMinimum, .bool true]) ∧ 1 ≤ c ∧ w'.cell? ⟨g, 0, none⟩ = some (.string wN) := by
  have hb0 := (Below.refl _ w).alloc (Nat.le_refl _) (.cells #[.pointer (some ⟨sb, 0, none⟩)] 22)
  have hb1 := hid_of (hb0.alloc hb0.size ((objU bn bi).obj 28))
  have n1 := new1 w (.cells #[.pointer (some ⟨sb, 0, none⟩)] 22) ((objU bn bi).obj 28)
  have n2 := new2 w (.cells #[.pointer (some ⟨sb, 0, none⟩)] 22) ((objU bn bi).obj 28)
  have hk := hid_of (caught_live w.heap.size (w.heap.size + 1) sb r0 p0 c0 mb r1 p1 c1 r2 p2 c2 bn bi _ (hL.keep hb1.out) (hD.keep hb1.out) (cell_of n1 0) n2)
  unfold V5.obj V5.v objU at *
  simp only at *
  clear n1 n2 hb0 hL hD
  go_enter Tryz.func4, Tryz.ntmps4
  go_wp2_with fail
  refine hk.out.mono ?_
  rintro e W ⟨pa, rfl, hb, hp⟩
  have hB := hid_of (hb1.out.trans (hb.mono hb1.out.size))
  have hB2 := hid_of (hB.out.alloc hB.out.size (.cells #[.pointer (some ⟨pa, 0, none⟩), .string wMinimum] 37))
  have kb := heap_alloc_new W (.cells #[.pointer (some ⟨pa, 0, none⟩), .string wMinimum] 37)
  have hp2 := hp.keep ((Below.refl _ W).alloc (Nat.le_refl _) (.cells #[.pointer (some ⟨pa, 0, none⟩), .string wMinimum] 37))
  clear hk hb hp hb1
  go_upto_region 4 with fail
  generalize W.alloc (.cells #[.pointer (some ⟨pa, 0, none⟩), .string wMinimum] 37) = W2 at *
  have b0 : W2.drew.cell? ⟨W.heap.size, 0, none⟩ = some (.pointer (some ⟨pa, 0, none⟩)) := cell_of kb 0
  have b1 : W2.drew.cell? ⟨W.heap.size, 1, none⟩ = some (.string wMinimum) := cell_of kb 1
  have hpt := hid_of (path_one pa W2.drew ⟨hp2.up, hp2.step⟩)
  have hB3 : Hid (Below w.heap.size w W2.drew) := below_drew hB2.out
  clear kb hp2 hB2
  go_region_held3 (fun V => V.cell? ⟨W.heap.size, 0, none⟩ = some (.pointer (some ⟨pa, 0, none⟩)) ∧ V.cell? ⟨W.heap.size, 1, none⟩ = some (.string wMinimum)) (go_keep) (first
    | (go_at_call 13; refine hpt.out.mono ?_; rintro e W3 ⟨hb3, g, c, rfl, hc, hg⟩; have d0 := stay hb3 b0; have d1 := stay hb3 b1; have hB4 := hid_of (hB3.out.trans (hb3.mono hB3.out.size)); replace hg := hid_of hg; clear hb3 b0 b1))
  all_goals
    clear d0 d1 hpt
    go_wp2_with fail
    refine bodyPost_ret (v := .tuple #[.slice (some ⟨g, 0, none⟩) 1 c, .string wMinimum, .bool true]) (by simp [results, Tryz.results4, go_sem]) rfl ?_
    exact ⟨hB4.out, g, c, rfl, hc, hg.out⟩
theorem number_any (x : Int) (w : World) : Calls Tryz.prog 5 #[.int .i64 x] w fun e w' => e = .returned (numU x).v ∧ Below w.heap.size w w' := by
  unfold V5.v numU
  go_enter Tryz.func5, Tryz.ntmps5
  go_wp2
  go_returns
  exact ⟨rfl, (Below.refl _ w).alloc (Nat.le_refl _) _⟩
theorem num_any (z : Int) (w : World) : Calls Tryz.prog 7 #[.int .i64 z] w fun e w' => e = .returned (.int .i64 z) ∧ w' = w := by
  go_enter Tryz.func7, Tryz.ntmps7
  go_wp2
  go_ret
  exact ⟨rfl, rfl⟩
/-- The five cells of a Value. -/
def FiveAt (w : World) (b : Nat) (u : V5) : Prop := ∀ j v, u.cs[j]? = some v → w.cell? ⟨b, j, none⟩ = some v
theorem FiveAt.keep {w w' : World} {b : Nat} {u : V5} (h : FiveAt w b u) (hb : Below w.heap.size w w') : FiveAt w' b u := fun j v hj => stay hb (h j v hj)
set_option maxHeartbeats 1000000 in
set_option maxRecDepth 100000 in
theorem object_any (s : ByteArray) (u : V5) (w : World) :
    Calls Tryz.prog 15 #[.string s, u.v] w fun e w' => Below w.heap.size w w' ∧ ∃ bn bi, e = .returned (objU bn bi).v ∧ w'.cell? ⟨bn, 0, none⟩ = some (.string s) ∧ FiveAt w' bi u := by
  unfold V5.v objU
  simp only
  go_enter Tryz.func15, Tryz.ntmps15
  go_wp2
  go_returns
  refine ⟨?_, w.heap.size + 1 + 1, w.heap.size + 1 + 1 + 1, rfl, ?_, ?_⟩
  · exact ((((Below.refl _ w).alloc (Nat.le_refl _) _).alloc (by simp) _).alloc (by simp; omega) _).alloc (by simp; omega) _
  · exact cell_alloc' (cell_of (heap_new' (by simp)) 0) _
  · intro j v hj
    rw [cell_of (heap_new' (by simp)) j]
    unfold V5.cs five at hj
    simpa using hj
end Go.Proofs.YtoghaanjdpcodaaGreatDoor
