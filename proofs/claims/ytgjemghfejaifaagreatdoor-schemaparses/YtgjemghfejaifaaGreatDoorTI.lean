import Derived.Test.YtgjemghfejaifaaGreatDoorTG
/-! schema: caught; where a fault is told. -/
namespace Go.Proofs.YtgjemghfejaifaaGreatDoor
open Go Go.RowKit

set_option maxHeartbeats 4000000 in
set_option maxRecDepth 100000 in
theorem caught_live (b2 b3 sb r0 p0 c0 mb r1 p1 c1 r2 p2 c2 bn bi : Nat) (w : World) (hL : LiveAt w sb r0 p0 c0 mb r1 p1 c1 r2 p2 c2) (hD : DocN w bn bi 0) (h2 : w.cell? ⟨b2, 0, none⟩ = some (.pointer (some ⟨sb, 0, none⟩))) (h3 : w.heap[b3]? = some ((objU bn bi).obj 25)) :
    Calls Tryz.prog 22 #[.func (.func 23) #[] #[.pointer (some ⟨b2, 0, none⟩), .pointer (some ⟨b3, 0, none⟩)]] w fun e w' => ∃ pa, e = .returned (.tuple #[.agg #[.pointer (some ⟨pa, 0, none⟩), .string wMinimum], .bool true]) ∧ Below w.heap.size w w' ∧ PlaceN w' pa := by
  have hb0 := (Below.refl _ w).alloc (Nat.le_refl _) (.cells #[.pointer none, .string ⟨#[]⟩] 62)
  have hb1 := hid_of (hb0.alloc hb0.size (.cells #[.bool false] 4))
  have n1 := new1 w (.cells #[.pointer none, .string ⟨#[]⟩] 62) (.cells #[.bool false] 4)
  have n2 := new2 w (.cells #[.pointer none, .string ⟨#[]⟩] 62) (.cells #[.bool false] 4)
  have hk := hid_of (fault_do b2 b3 sb r0 p0 c0 mb r1 p1 c1 r2 p2 c2 bn bi _ (hL.keep hb1.out) (hD.keep hb1.out) (stay hb1.out h2) (block_keep h3 hb1.out))
  replace n1 := hid_of n1
  replace n2 := hid_of n2
  clear hb0 hL hD h2 h3
  go_enter_defers Tryz.func22, Tryz.ntmps22
  go_wp2_with fail
  refine hk.out.mono ?_
  rintro e W ⟨pa, rfl, hb, hp⟩
  have q1 := block_keep n1.out hb
  have q2 := block_keep n2.out hb
  have hB := hb1.out.trans (hb.mono hb1.out.size)
  clear hk n1 n2 hb hb1
  go_wp2_with fail
  refine leaves_cons (f := 47) (args := #[.pointer (some ⟨w.heap.size, 0, none⟩), .pointer (some ⟨w.heap.size + 1, 0, none⟩)]) (by simp) (by simp [go_sem]) ?_
  refine (catch_breach w.heap.size (w.heap.size + 1) pa wMinimum (by omega) W q1 q2).mono ?_
  rintro e u' W3 ⟨rfl, rfl, hC⟩
  have d0 : W3.cell? ⟨w.heap.size, 0, none⟩ = some (.pointer (some ⟨pa, 0, none⟩)) := cell_of hC.cb 0
  have d1 : W3.cell? ⟨w.heap.size, 1, none⟩ = some (.string wMinimum) := cell_of hC.cb 1
  have d2 : W3.cell? ⟨w.heap.size + 1, 0, none⟩ = some (.bool true) := cell_of hC.ck 0
  have l1 := (Array.getElem?_eq_some_iff.1 q1).1
  have hBB : Below w.heap.size w W3 := hB.trans ⟨hC.os, hC.tape, hC.output, hC.size, fun k hk => hC.block k (by have := hB.size; omega) (by omega) (by omega)⟩
  have hPP : PlaceN W3 pa := by
    have n1 : pa ≠ w.heap.size := by
      rintro rfl
      have := hp.step
      rw [cell_of q1 1] at this
      cases this
    have n2 : pa ≠ w.heap.size + 1 := by
      rintro rfl
      have := hp.up
      rw [cell_of q2 0] at this
      cases this
    exact ⟨(World.cell?_of_block (w := W) (hC.block pa (lt_of_cell hp.up) n1 n2)).trans hp.up, (World.cell?_of_block (w := W) (hC.block pa (lt_of_cell hp.up) n1 n2)).trans hp.step⟩
  simp [Leaves, settle, results, Tryz.results22, go_sem, d0, d1, d2]
  exact ⟨hBB, hPP⟩
set_option maxHeartbeats 1000000 in
set_option maxRecDepth 100000 in
theorem reverse_one (g c : Nat) (w : World) : Calls Tryz.prog 48 #[.slice (some ⟨g, 0, none⟩) 1 c] w fun e w' => e = .returned (.tuple #[]) ∧ Below w.heap.size w w' := by
  go_enter Tryz.func48, Tryz.ntmps48
  go_wp2_with fail
  refine wp_loop_rounds 1 ?_
  rw [rounds_succ]
  go_wp2_with fail
  go_end0
  exact ⟨rfl, Below.refl _ _⟩
theorem path_app {w W3 : World} {pa g o2 c2 : Nat} {xs : List Value} {o : Obj} (u0 : w.cell? ⟨pa, 0, none⟩ = some (.pointer none)) (hA : Appd (w.alloc o) w.heap.size 1 none 0 1 0 ([] ++ xs) g o2 c2 W3) (hBa : Below w.heap.size w (w.alloc o)) {s : ByteArray} (hx : xs = [.string s] := by rfl) :
    Hid (Below w.heap.size w W3) ∧ o2 = 0 ∧ W3.cell? ⟨pa, 0, none⟩ = some (.pointer none) ∧ Hid (1 ≤ c2 ∧ W3.cell? ⟨g, 0, none⟩ = some (.string s)) := by
  subst hx
  have hB : Below w.heap.size w W3 := hBa.trans (hA.fr.below hBa.size (fun i hi => by obtain ⟨⟨o', s', e⟩, -⟩ := hi; cases e))
  have ho : o2 = 0 := by
    rcases hA.at' with ⟨h1, -, -⟩ | ⟨-, h, -⟩
    · cases h1
    · exact h
  subst ho
  obtain ⟨b, o, e, -, h2⟩ := hA.row.cell (j := 0) rfl
  cases e
  exact ⟨hB, rfl, stay hB u0, hA.row.le, h2⟩
set_option maxHeartbeats 4000000 in
set_option maxRecDepth 100000 in
theorem path_one (pa : Nat) (w : World) (hP : PlaceN w pa) :
    Calls Tryz.prog 25 #[.pointer (some ⟨pa, 0, none⟩)] w fun e w' => Below w.heap.size w w' ∧ ∃ g c, e = .returned (.slice (some ⟨g, 0, none⟩) 1 c) ∧ 1 ≤ c ∧ w'.cell? ⟨g, 0, none⟩ = some (.string wN) := by
  obtain ⟨ri, hri, hri1, hri2, hri3⟩ := info_parts A9
  have u0 := hP.up
  have u1 := hP.step
  unfold wN at *
  have hsrc := hid_of (Src.of_block (P := Tryz.prog) (size := 1) Tryz.underlying22 (heap_alloc_new w (.cells #[.string ⟨#[110]⟩] 9)) 1 1 rfl (by intro u hu; simp at hu; subst hu; rfl))
  have hBa := hid_of ((Below.refl _ w).alloc (Nat.le_refl _) (.cells #[.string ⟨#[110]⟩] 9))
  have hRw := hid_of (Rw.nil (w.alloc (.cells #[.string ⟨#[110]⟩] 9)) w.heap.size 1 none)
  have hr := fun g c W => hid_of (reverse_one g c W)
  go_enter Tryz.func25, Tryz.ntmps25
  go_wp2_with fail
  refine wp_loop_rounds 2 ?_
  rw [rounds_succ]
  go_wp2_with (at_builtin; refine wpList_append_rw _ rfl _ _ 22 rfl 9 ri _ 1 16 Tryz.underlying22 hri hri1 hri2 hri3 rfl w.heap.size none 0 0 [] rfl hRw.out.len hRw.out.le hRw.out.mx hRw.out.rd _ rfl 1 _ hsrc.out (fun _ => hRw.out) (by decide) (by decide) (by decide) hBa.out.size ?_; intro g o2 c2 W3 hA; replace hA := hid_of hA; obtain ⟨hB3, ho3, v0, v1⟩ : Hid (Below w.heap.size w W3) ∧ o2 = 0 ∧ W3.cell? ⟨pa, 0, none⟩ = some (.pointer none) ∧ Hid (1 ≤ c2 ∧ W3.cell? ⟨g, 0, none⟩ = some (.string ⟨#[110]⟩)) := path_app u0 hA.out hBa.out; subst ho3; clear u0 u1)
  rw [rounds_succ]
  go_wp2_with fail
  refine (hr _ _ _).out.mono ?_
  rintro e W4 ⟨rfl, hb4⟩
  have hB4 := hid_of (hB3.out.trans (hb4.mono hB3.out.size))
  have z0 := hid_of (stay hb4 v1.out.2)
  clear hb4 v0 hr hA hsrc hRw
  go_wp2_with fail
  go_ret
  exact ⟨hB4.out, g, c2, rfl, v1.out.1, z0.out⟩
end Go.Proofs.YtgjemghfejaifaaGreatDoor
/-! schema: Fault of {"n": 0}; live. -/
namespace Go.Proofs.YtgjemghfejaifaaGreatDoor
open Go Go.RowKit

set_option maxHeartbeats 4000000 in
set_option maxRecDepth 100000 in
theorem fault_live (sb r0 p0 c0 mb r1 p1 c1 r2 p2 c2 bn bi : Nat) (w : World) (hL : LiveAt w sb r0 p0 c0 mb r1 p1 c1 r2 p2 c2) (hD : DocN w bn bi 0) :
    Calls Tryz.prog 15 #[.pointer (some ⟨sb, 0, none⟩), (objU bn bi).v] w fun e w' => Below w.heap.size w w' ∧ ∃ g c, e = .returned (.tuple #[.slice (some ⟨g, 0, none⟩) 1 c, .string wMinimum, .bool true]) ∧ 1 ≤ c ∧ w'.cell? ⟨g, 0, none⟩ = some (.string wN) := by
  have hb0 := (Below.refl _ w).alloc (Nat.le_refl _) (.cells #[.pointer (some ⟨sb, 0, none⟩)] 29)
  have hb1 := hid_of (hb0.alloc hb0.size ((objU bn bi).obj 25))
  have n1 := new1 w (.cells #[.pointer (some ⟨sb, 0, none⟩)] 29) ((objU bn bi).obj 25)
  have n2 := new2 w (.cells #[.pointer (some ⟨sb, 0, none⟩)] 29) ((objU bn bi).obj 25)
  have hk := hid_of (caught_live w.heap.size (w.heap.size + 1) sb r0 p0 c0 mb r1 p1 c1 r2 p2 c2 bn bi _ (hL.keep hb1.out) (hD.keep hb1.out) (cell_of n1 0) n2)
  unfold V5.obj V5.v objU at *
  simp only at *
  clear n1 n2 hb0 hL hD
  go_enter Tryz.func15, Tryz.ntmps15
  go_wp2_with fail
  refine hk.out.mono ?_
  rintro e W ⟨pa, rfl, hb, hp⟩
  have hB := hid_of (hb1.out.trans (hb.mono hb1.out.size))
  have hB2 := hid_of (hB.out.alloc hB.out.size (.cells #[.pointer (some ⟨pa, 0, none⟩), .string wMinimum] 62))
  have kb := heap_alloc_new W (.cells #[.pointer (some ⟨pa, 0, none⟩), .string wMinimum] 62)
  have hp2 := hp.keep ((Below.refl _ W).alloc (Nat.le_refl _) (.cells #[.pointer (some ⟨pa, 0, none⟩), .string wMinimum] 62))
  clear hk hb hp hb1
  go_upto_region 4 with fail
  generalize W.alloc (.cells #[.pointer (some ⟨pa, 0, none⟩), .string wMinimum] 62) = W2 at *
  have b0 : W2.drew.cell? ⟨W.heap.size, 0, none⟩ = some (.pointer (some ⟨pa, 0, none⟩)) := cell_of kb 0
  have b1 : W2.drew.cell? ⟨W.heap.size, 1, none⟩ = some (.string wMinimum) := cell_of kb 1
  have hpt := hid_of (path_one pa W2.drew ⟨hp2.up, hp2.step⟩)
  have hB3 : Hid (Below w.heap.size w W2.drew) := below_drew hB2.out
  clear kb hp2 hB2
  go_region_held3 (fun V => V.cell? ⟨W.heap.size, 0, none⟩ = some (.pointer (some ⟨pa, 0, none⟩)) ∧ V.cell? ⟨W.heap.size, 1, none⟩ = some (.string wMinimum)) (go_keep) (first
    | (go_at_call 25; refine hpt.out.mono ?_; rintro e W3 ⟨hb3, g, c, rfl, hc, hg⟩; have d0 := stay hb3 b0; have d1 := stay hb3 b1; have hB4 := hid_of (hB3.out.trans (hb3.mono hB3.out.size)); replace hg := hid_of hg; clear hb3 b0 b1))
  all_goals
    clear d0 d1 hpt
    go_wp2_with fail
    refine bodyPost_ret (v := .tuple #[.slice (some ⟨g, 0, none⟩) 1 c, .string wMinimum, .bool true]) (by simp [results, Tryz.results15, go_sem]) rfl ?_
    exact ⟨hB4.out, g, c, rfl, hc, hg.out⟩
theorem number_any (x : Int) (w : World) : Calls Tryz.prog 14 #[.int .i64 x] w fun e w' => e = .returned (numU x).v ∧ Below w.heap.size w w' := by
  unfold V5.v numU
  go_enter Tryz.func14, Tryz.ntmps14
  go_wp2
  go_returns
  exact ⟨rfl, (Below.refl _ w).alloc (Nat.le_refl _) _⟩
theorem num_any (z : Int) (w : World) : Calls Tryz.prog 9 #[.int .i64 z] w fun e w' => e = .returned (.int .i64 z) ∧ w' = w := by
  go_enter Tryz.func9, Tryz.ntmps9
  go_wp2
  go_ret
  exact ⟨rfl, rfl⟩
/-- The five cells of a Value. -/
def FiveAt (w : World) (b : Nat) (u : V5) : Prop := ∀ j v, u.cs[j]? = some v → w.cell? ⟨b, j, none⟩ = some v
theorem FiveAt.keep {w w' : World} {b : Nat} {u : V5} (h : FiveAt w b u) (hb : Below w.heap.size w w') : FiveAt w' b u := fun j v hj => stay hb (h j v hj)
set_option maxHeartbeats 1000000 in
set_option maxRecDepth 100000 in
theorem object_any (s : ByteArray) (u : V5) (w : World) :
    Calls Tryz.prog 13 #[.string s, u.v] w fun e w' => Below w.heap.size w w' ∧ ∃ bn bi, e = .returned (objU bn bi).v ∧ w'.cell? ⟨bn, 0, none⟩ = some (.string s) ∧ FiveAt w' bi u := by
  unfold V5.v objU
  simp only
  go_enter Tryz.func13, Tryz.ntmps13
  go_wp2
  go_returns
  refine ⟨?_, w.heap.size + 1 + 1, w.heap.size + 1 + 1 + 1, rfl, ?_, ?_⟩
  · exact ((((Below.refl _ w).alloc (Nat.le_refl _) _).alloc (by simp) _).alloc (by simp; omega) _).alloc (by simp; omega) _
  · exact cell_alloc' (cell_of (heap_new' (by simp)) 0) _
  · intro j v hj
    rw [cell_of (heap_new' (by simp)) j]
    unfold V5.cs five at hj
    simpa using hj
end Go.Proofs.YtgjemghfejaifaaGreatDoor
