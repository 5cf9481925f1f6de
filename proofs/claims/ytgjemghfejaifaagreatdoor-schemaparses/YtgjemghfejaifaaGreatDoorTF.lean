import Derived.Test.YtgjemghfejaifaaGreatDoorTE
/-! schema: the first fault of {"n": 0}: a panic on its way up. -/
namespace Go.Proofs.YtgjemghfejaifaaGreatDoor
open Go Go.RowKit

/-- Where the value stands that breaks the rule. -/
structure PlaceN (w : World) (pa : Nat) : Prop where
  up : w.cell? ⟨pa, 0, none⟩ = some (.pointer none)
  step : w.cell? ⟨pa, 1, none⟩ = some (.string wN)
theorem PlaceN.keep {w w' : World} {pa : Nat} (h : PlaceN w pa) (hb : Below w.heap.size w w') : PlaceN w' pa := ⟨stay hb h.up, stay hb h.step⟩
def SeekPost (w : World) (e : Ending) (w' : World) : Prop := ∃ pa, e = .panicked (breachC (.pointer (some ⟨pa, 0, none⟩)) wMinimum) ∧ Below w.heap.size w w' ∧ PlaceN w' pa
set_option maxHeartbeats 4000000 in
set_option maxRecDepth 100000 in
theorem props_seek (mb r1 p1 c1 r2 p2 c2 bn bi : Nat) (w : World) (h : PropsAt w mb r1 p1 r2 p2 c2) (hD : DocN w bn bi 0) :
    Calls Tryz.prog 102 #[propsV mb r1 p1 c1, (objU bn bi).v, .pointer none] w (SeekPost w) := by
  have hb0 := (Below.refl _ w).alloc (Nat.le_refl _) (.cells #[.map (some mb), .slice (some ⟨r1, p1, none⟩) 1 c1] 105)
  have hb1 := hid_of (hb0.alloc hb0.size ((objU bn bi).obj 25))
  have n1 := new1 w (.cells #[.map (some mb), .slice (some ⟨r1, p1, none⟩) 1 c1] 105) ((objU bn bi).obj 25)
  have n2 := new2 w (.cells #[.map (some mb), .slice (some ⟨r1, p1, none⟩) 1 c1] 105) ((objU bn bi).obj 25)
  have hnm := hid_of (named_n mb r1 p1 c1 bn bi _ (h.keep hb1.out).nums (hD.keep hb1.out).name)
  unfold propsV at *
  unfold V5.obj V5.v objU at *
  simp only at *
  go_enter Tryz.func102, Tryz.ntmps102
  go_wp2_with fail
  refine hnm.out.mono ?_
  rintro e W0 ⟨hb, g, c, rfl, hc, hg, g0, g1⟩
  have hB0 := hid_of (hb1.out.trans (hb.mono hb1.out.size))
  have q1 := block_keep n1 hb
  have q2 := block_keep n2 hb
  clear hnm n1 n2 hb hb0 hb1
  go_wp2_with fail
  refine (sort_one g c _ _).mono ?_
  rintro e W ⟨rfl, hb⟩
  have hB := hid_of (hB0.out.trans (hb.mono hB0.out.size))
  have s1 := block_keep q1 hb
  have s2 := block_keep q2 hb
  replace g0 := stay hb g0
  replace g1 := stay hb g1
  have hg' := hid_of (lt_of_cell g0)
  clear hb q1 q2 hB0
  go_wp2_with fail
  refine wp_loop_rounds 2 ?_
  rw [rounds_succ]
  have hB2 := hid_of (hB.out.alloc hB.out.size (.cells #[.int .i64 0, .int .i64 0] 164))
  have k3 := heap_alloc_new W (.cells #[.int .i64 0, .int .i64 0] 164)
  have k1 := (Below.heap_alloc W (.cells #[.int .i64 0, .int .i64 0] 164) _ (Array.getElem?_eq_some_iff.1 s1).1).trans s1
  have k2 := (Below.heap_alloc W (.cells #[.int .i64 0, .int .i64 0] 164) _ (Array.getElem?_eq_some_iff.1 s2).1).trans s2
  go_upto_region 6 with fail
  generalize W.alloc (.cells #[.int .i64 0, .int .i64 0] 164) = W2 at *
  have hP := h.keep hB2.out
  have hDD := hD.keep hB2.out
  have a1 : W2.drew.cell? ⟨w.heap.size, 1, none⟩ = some (.slice (some ⟨r1, p1, none⟩) 1 c1) := cell_of k1 1
  have a2 : W2.drew.cell? ⟨w.heap.size + 1, 4, none⟩ = some (.slice (some ⟨bi, 0, none⟩) 1 1) := cell_of k2 4
  have a6 : W2.drew.cell? ⟨w.heap.size + 1, 3, none⟩ = some (.slice (some ⟨bn, 0, none⟩) 1 1) := cell_of k2 3
  have a3 : W2.drew.cell? ⟨W.heap.size, 0, none⟩ = some (.int .i64 0) := cell_of k3 0
  have a4 : W2.drew.cell? ⟨W.heap.size, 1, none⟩ = some (.int .i64 0) := cell_of k3 1
  have a5 : W2.drew.cell? ⟨r1, p1, none⟩ = some (.slice (some ⟨r2, p2, none⟩) 1 c2) := hP.sch
  have a7 : W2.drew.cell? ⟨bn, 0, none⟩ = some (.string wN) := hDD.name
  have i0 : W2.drew.cell? ⟨bi, 0, none⟩ = some (.int .i64 3) := hDD.i0
  have i1 : W2.drew.cell? ⟨bi, 1, none⟩ = some (.int .i64 0) := hDD.i1
  have i2 : W2.drew.cell? ⟨bi, 2, none⟩ = some (.string ⟨#[]⟩) := hDD.i2
  have i3 : W2.drew.cell? ⟨bi, 3, none⟩ = some (.slice none 0 0) := hDD.i3
  have i4 : W2.drew.cell? ⟨bi, 4, none⟩ = some (.slice none 0 0) := hDD.i4
  have hB3 : Hid (Below w.heap.size w W2.drew) := below_drew hB2.out
  have hB4 : Hid (Below w.heap.size w (W2.alloc (.cells #[.pointer none, .string wN] 91)).drew) := below_drew (hB2.out.alloc hB2.out.size _)
  have hpl : (W2.alloc (.cells #[.pointer none, .string wN] 91)).drew.heap[W2.heap.size]? = _ := heap_alloc_new W2 (.cells #[.pointer none, .string wN] 91)
  have hPN : Hid (PlaceN ((W2.alloc (.cells #[.pointer none, .string wN] 91)).drew) W2.heap.size) := ⟨cell_of hpl 0, cell_of hpl 1⟩
  have hk := hid_of (min_seek r2 p2 c2 W2.heap.size ((W2.alloc (.cells #[.pointer none, .string wN] 91)).drew) ⟨cell_alloc' (W := W2) hP.min.word _, cell_alloc' (W := W2) hP.min.rule _⟩)
  have hfin : Hid (∀ e w', (e = .panicked (breachC (.pointer (some ⟨W2.heap.size, 0, none⟩)) wMinimum) ∧ Below ((W2.alloc (.cells #[.pointer none, .string wN] 91)).drew).heap.size ((W2.alloc (.cells #[.pointer none, .string wN] 91)).drew) w') → SeekPost w e w') := by
    rintro e w' ⟨rfl, hb⟩
    exact ⟨_, rfl, hB4.out.trans (hb.mono hB4.out.size), hPN.out.keep hb⟩
  unfold numU V5.v wN at *
  simp only at *
  clear hP hDD k1 k2 k3 s1 s2 g0 g1 h hD hB hB2 hpl hPN
  have hSA : Hid ((W2.alloc (.cells #[.pointer none, .string ⟨#[110]⟩] 91)).drew.cell? ⟨w.heap.size, 1, none⟩ = some (.slice (some ⟨r1, p1, none⟩) 1 c1) ∧ (W2.alloc (.cells #[.pointer none, .string ⟨#[110]⟩] 91)).drew.cell? ⟨w.heap.size + 1, 4, none⟩ = some (.slice (some ⟨bi, 0, none⟩) 1 1) ∧ (W2.alloc (.cells #[.pointer none, .string ⟨#[110]⟩] 91)).drew.cell? ⟨w.heap.size + 1, 3, none⟩ = some (.slice (some ⟨bn, 0, none⟩) 1 1) ∧ (W2.alloc (.cells #[.pointer none, .string ⟨#[110]⟩] 91)).drew.cell? ⟨W.heap.size, 0, none⟩ = some (.int .i64 0) ∧ (W2.alloc (.cells #[.pointer none, .string ⟨#[110]⟩] 91)).drew.cell? ⟨W.heap.size, 1, none⟩ = some (.int .i64 0) ∧ (W2.alloc (.cells #[.pointer none, .string ⟨#[110]⟩] 91)).drew.cell? ⟨r1, p1, none⟩ = some (.slice (some ⟨r2, p2, none⟩) 1 c2) ∧ (W2.alloc (.cells #[.pointer none, .string ⟨#[110]⟩] 91)).drew.cell? ⟨bn, 0, none⟩ = some (.string ⟨#[110]⟩) ∧ (W2.alloc (.cells #[.pointer none, .string ⟨#[110]⟩] 91)).drew.cell? ⟨bi, 0, none⟩ = some (.int .i64 3) ∧ (W2.alloc (.cells #[.pointer none, .string ⟨#[110]⟩] 91)).drew.cell? ⟨bi, 1, none⟩ = some (.int .i64 0) ∧ (W2.alloc (.cells #[.pointer none, .string ⟨#[110]⟩] 91)).drew.cell? ⟨bi, 2, none⟩ = some (.string ⟨#[]⟩) ∧ (W2.alloc (.cells #[.pointer none, .string ⟨#[110]⟩] 91)).drew.cell? ⟨bi, 3, none⟩ = some (.slice none 0 0) ∧ (W2.alloc (.cells #[.pointer none, .string ⟨#[110]⟩] 91)).drew.cell? ⟨bi, 4, none⟩ = some (.slice none 0 0)) := ⟨cell_alloc' (W := W2) a1 _, cell_alloc' (W := W2) a2 _, cell_alloc' (W := W2) a6 _, cell_alloc' (W := W2) a3 _, cell_alloc' (W := W2) a4 _, cell_alloc' (W := W2) a5 _, cell_alloc' (W := W2) a7 _, cell_alloc' (W := W2) i0 _, cell_alloc' (W := W2) i1 _, cell_alloc' (W := W2) i2 _, cell_alloc' (W := W2) i3 _, cell_alloc' (W := W2) i4 _⟩
  refine wp_region_held_drew (S := (fun V => V.cell? ⟨w.heap.size, 1, none⟩ = some (.slice (some ⟨r1, p1, none⟩) 1 c1) ∧ V.cell? ⟨w.heap.size + 1, 4, none⟩ = some (.slice (some ⟨bi, 0, none⟩) 1 1) ∧ V.cell? ⟨w.heap.size + 1, 3, none⟩ = some (.slice (some ⟨bn, 0, none⟩) 1 1) ∧ V.cell? ⟨W.heap.size, 0, none⟩ = some (.int .i64 0) ∧ V.cell? ⟨W.heap.size, 1, none⟩ = some (.int .i64 0) ∧ V.cell? ⟨r1, p1, none⟩ = some (.slice (some ⟨r2, p2, none⟩) 1 c2) ∧ V.cell? ⟨bn, 0, none⟩ = some (.string ⟨#[110]⟩) ∧ V.cell? ⟨bi, 0, none⟩ = some (.int .i64 3) ∧ V.cell? ⟨bi, 1, none⟩ = some (.int .i64 0) ∧ V.cell? ⟨bi, 2, none⟩ = some (.string ⟨#[]⟩) ∧ V.cell? ⟨bi, 3, none⟩ = some (.slice none 0 0) ∧ V.cell? ⟨bi, 4, none⟩ = some (.slice none 0 0))) (by kernel_rfl) ⟨a1, a2, a6, a3, a4, a5, a7, i0, i1, i2, i3, i4⟩ (fun hHeld => ?_)
  refine wpAnyH_take (i := 0) (v := .pointer (some ⟨w.heap.size, 1, none⟩)) rfl (by kernel_rfl) (by kernel_rfl) (by kernel_rfl) (fun _ _ _ h => h) (Or.inl ⟨by rfl, (by intro w' hS; obtain ⟨s1, s2, s3, s4, s5, s6, s7, s8, s9, s10, s11, s12⟩ := hS; go_simp)⟩) hHeld ?_
  simp only [Act.put, List.getElem_toArray, List.getElem_cons_zero, List.setIfInBounds_toArray, List.set_cons_zero, List.set_cons_succ]
  refine wpAnyH_take (i := 1) (v := .slice (some ⟨r1, p1, none⟩) 1 c1) rfl (by kernel_rfl) (by kernel_rfl) (by kernel_rfl) (fun _ _ _ h => h) (Or.inl ⟨by rfl, (by intro w' hS; obtain ⟨s1, s2, s3, s4, s5, s6, s7, s8, s9, s10, s11, s12⟩ := hS; go_simp)⟩) hHeld ?_
  simp only [Act.put, List.getElem_toArray, List.getElem_cons_zero, List.getElem_cons_succ, List.setIfInBounds_toArray, List.set_cons_zero, List.set_cons_succ]
  refine wpAnyH_take (i := 2) (v := .pointer (some ⟨W.heap.size, 0, none⟩)) rfl (by kernel_rfl) (by kernel_rfl) (by kernel_rfl) (fun _ _ _ h => h) (Or.inl ⟨by rfl, (by intro w' hS; obtain ⟨s1, s2, s3, s4, s5, s6, s7, s8, s9, s10, s11, s12⟩ := hS; go_simp)⟩) hHeld ?_
  simp only [Act.put, List.getElem_toArray, List.getElem_cons_zero, List.getElem_cons_succ, List.setIfInBounds_toArray, List.set_cons_zero, List.set_cons_succ]
  refine wpAnyH_take (i := 3) (v := .int .i64 0) rfl (by kernel_rfl) (by kernel_rfl) (by kernel_rfl) (fun _ _ _ h => h) (Or.inl ⟨by rfl, (by intro w' hS; obtain ⟨s1, s2, s3, s4, s5, s6, s7, s8, s9, s10, s11, s12⟩ := hS; go_simp)⟩) hHeld ?_
  simp only [Act.put, List.getElem_toArray, List.getElem_cons_zero, List.getElem_cons_succ, List.setIfInBounds_toArray, List.set_cons_zero, List.set_cons_succ]
  refine wpAnyH_take (i := 4) (v := .pointer (some ⟨r1, p1, none⟩)) rfl (by kernel_rfl) (by kernel_rfl) (by kernel_rfl) (fun _ _ _ h => h) (Or.inl ⟨by rfl, (by intro w' hS; obtain ⟨s1, s2, s3, s4, s5, s6, s7, s8, s9, s10, s11, s12⟩ := hS; go_simp)⟩) hHeld ?_
  simp only [Act.put, List.getElem_toArray, List.getElem_cons_zero, List.getElem_cons_succ, List.setIfInBounds_toArray, List.set_cons_zero, List.set_cons_succ]
  refine wpAnyH_take (i := 5) (v := .slice (some ⟨r2, p2, none⟩) 1 c2) rfl (by kernel_rfl) (by kernel_rfl) (by kernel_rfl) (fun _ _ _ h => h) (Or.inl ⟨by rfl, (by intro w' hS; obtain ⟨s1, s2, s3, s4, s5, s6, s7, s8, s9, s10, s11, s12⟩ := hS; go_simp)⟩) hHeld ?_
  simp only [Act.put, List.getElem_toArray, List.getElem_cons_zero, List.getElem_cons_succ, List.setIfInBounds_toArray, List.set_cons_zero, List.set_cons_succ]
  refine wpAnyH_take (i := 6) (v := .pointer (some ⟨w.heap.size + 1, 4, none⟩)) rfl (by kernel_rfl) (by kernel_rfl) (by kernel_rfl) (fun _ _ _ h => h) (Or.inl ⟨by rfl, (by intro w' hS; obtain ⟨s1, s2, s3, s4, s5, s6, s7, s8, s9, s10, s11, s12⟩ := hS; go_simp)⟩) hHeld ?_
  simp only [Act.put, List.getElem_toArray, List.getElem_cons_zero, List.getElem_cons_succ, List.setIfInBounds_toArray, List.set_cons_zero, List.set_cons_succ]
  refine wpAnyH_take (i := 7) (v := .slice (some ⟨bi, 0, none⟩) 1 1) rfl (by kernel_rfl) (by kernel_rfl) (by kernel_rfl) (fun _ _ _ h => h) (Or.inl ⟨by rfl, (by intro w' hS; obtain ⟨s1, s2, s3, s4, s5, s6, s7, s8, s9, s10, s11, s12⟩ := hS; go_simp)⟩) hHeld ?_
  simp only [Act.put, List.getElem_toArray, List.getElem_cons_zero, List.getElem_cons_succ, List.setIfInBounds_toArray, List.set_cons_zero, List.set_cons_succ]
  refine wpAnyH_take (i := 8) (v := .pointer (some ⟨W.heap.size, 1, none⟩)) rfl (by kernel_rfl) (by kernel_rfl) (by kernel_rfl) (fun _ _ _ h => h) (Or.inl ⟨by rfl, (by intro w' hS; obtain ⟨s1, s2, s3, s4, s5, s6, s7, s8, s9, s10, s11, s12⟩ := hS; go_simp)⟩) hHeld ?_
  simp only [Act.put, List.getElem_toArray, List.getElem_cons_zero, List.getElem_cons_succ, List.setIfInBounds_toArray, List.set_cons_zero, List.set_cons_succ]
  refine wpAnyH_take (i := 9) (v := .int .i64 0) rfl (by kernel_rfl) (by kernel_rfl) (by kernel_rfl) (fun _ _ _ h => h) (Or.inl ⟨by rfl, (by intro w' hS; obtain ⟨s1, s2, s3, s4, s5, s6, s7, s8, s9, s10, s11, s12⟩ := hS; go_simp)⟩) hHeld ?_
  simp only [Act.put, List.getElem_toArray, List.getElem_cons_zero, List.getElem_cons_succ, List.setIfInBounds_toArray, List.set_cons_zero, List.set_cons_succ]
  refine wpAnyH_take (i := 10) (v := .pointer (some ⟨bi, 0, none⟩)) rfl (by kernel_rfl) (by kernel_rfl) (by kernel_rfl) (fun _ _ _ h => h) (Or.inl ⟨by rfl, (by intro w' hS; obtain ⟨s1, s2, s3, s4, s5, s6, s7, s8, s9, s10, s11, s12⟩ := hS; go_simp)⟩) hHeld ?_
  simp only [Act.put, List.getElem_toArray, List.getElem_cons_zero, List.getElem_cons_succ, List.setIfInBounds_toArray, List.set_cons_zero, List.set_cons_succ]
  refine wpAnyH_take (i := 11) (v := .agg #[.int .i64 3, .int .i64 0, .string ⟨#[]⟩, .slice none 0 0, .slice none 0 0]) rfl (by kernel_rfl) (by kernel_rfl) (by kernel_rfl) (fun _ _ _ h => h) (Or.inl ⟨by rfl, (by intro w' hS; obtain ⟨s1, s2, s3, s4, s5, s6, s7, s8, s9, s10, s11, s12⟩ := hS; go_simp)⟩) hHeld ?_
  simp only [Act.put, List.getElem_toArray, List.getElem_cons_zero, List.getElem_cons_succ, List.setIfInBounds_toArray, List.set_cons_zero, List.set_cons_succ]
  refine wpAnyH_take (i := 12) (v := .pointer none) rfl (by kernel_rfl) (by kernel_rfl) (by kernel_rfl) (fun _ _ _ h => h) (Or.inl ⟨by rfl, (by intro w' hS; obtain ⟨s1, s2, s3, s4, s5, s6, s7, s8, s9, s10, s11, s12⟩ := hS; go_simp)⟩) hHeld ?_
  simp only [Act.put, List.getElem_toArray, List.getElem_cons_zero, List.getElem_cons_succ, List.setIfInBounds_toArray, List.set_cons_zero, List.set_cons_succ]
  refine wpAnyH_take (i := 13) (v := .pointer (some ⟨w.heap.size + 1, 3, none⟩)) rfl (by kernel_rfl) (by kernel_rfl) (by kernel_rfl) (fun _ _ _ h => h) (Or.inl ⟨by rfl, (by intro w' hS; obtain ⟨s1, s2, s3, s4, s5, s6, s7, s8, s9, s10, s11, s12⟩ := hS; go_simp)⟩) hHeld ?_
  simp only [Act.put, List.getElem_toArray, List.getElem_cons_zero, List.getElem_cons_succ, List.setIfInBounds_toArray, List.set_cons_zero, List.set_cons_succ]
  refine wpAnyH_take (i := 14) (v := .slice (some ⟨bn, 0, none⟩) 1 1) rfl (by kernel_rfl) (by kernel_rfl) (by kernel_rfl) (fun _ _ _ h => h) (Or.inl ⟨by rfl, (by intro w' hS; obtain ⟨s1, s2, s3, s4, s5, s6, s7, s8, s9, s10, s11, s12⟩ := hS; go_simp)⟩) hHeld ?_
  simp only [Act.put, List.getElem_toArray, List.getElem_cons_zero, List.getElem_cons_succ, List.setIfInBounds_toArray, List.set_cons_zero, List.set_cons_succ]
  refine wpAnyH_take (i := 15) (v := .pointer (some ⟨W.heap.size, 1, none⟩)) rfl (by kernel_rfl) (by kernel_rfl) (by kernel_rfl) (fun _ _ _ h => h) (Or.inl ⟨by rfl, (by intro w' hS; obtain ⟨s1, s2, s3, s4, s5, s6, s7, s8, s9, s10, s11, s12⟩ := hS; go_simp)⟩) hHeld ?_
  simp only [Act.put, List.getElem_toArray, List.getElem_cons_zero, List.getElem_cons_succ, List.setIfInBounds_toArray, List.set_cons_zero, List.set_cons_succ]
  refine wpAnyH_take (i := 16) (v := .int .i64 0) rfl (by kernel_rfl) (by kernel_rfl) (by kernel_rfl) (fun _ _ _ h => h) (Or.inl ⟨by rfl, (by intro w' hS; obtain ⟨s1, s2, s3, s4, s5, s6, s7, s8, s9, s10, s11, s12⟩ := hS; go_simp)⟩) hHeld ?_
  simp only [Act.put, List.getElem_toArray, List.getElem_cons_zero, List.getElem_cons_succ, List.setIfInBounds_toArray, List.set_cons_zero, List.set_cons_succ]
  refine wpAnyH_take (i := 17) (v := .pointer (some ⟨bn, 0, none⟩)) rfl (by kernel_rfl) (by kernel_rfl) (by kernel_rfl) (fun _ _ _ h => h) (Or.inl ⟨by rfl, (by intro w' hS; obtain ⟨s1, s2, s3, s4, s5, s6, s7, s8, s9, s10, s11, s12⟩ := hS; go_simp)⟩) hHeld ?_
  simp only [Act.put, List.getElem_toArray, List.getElem_cons_zero, List.getElem_cons_succ, List.setIfInBounds_toArray, List.set_cons_zero, List.set_cons_succ]
  refine wpAnyH_take (i := 18) (v := .string ⟨#[110]⟩) rfl (by kernel_rfl) (by kernel_rfl) (by kernel_rfl) (fun _ _ _ h => h) (Or.inl ⟨by rfl, (by intro w' hS; obtain ⟨s1, s2, s3, s4, s5, s6, s7, s8, s9, s10, s11, s12⟩ := hS; go_simp)⟩) hHeld ?_
  simp only [Act.put, List.getElem_toArray, List.getElem_cons_zero, List.getElem_cons_succ, List.setIfInBounds_toArray, List.set_cons_zero, List.set_cons_succ]
  refine wpAnyH_take (i := 19) (v := .agg #[.pointer none, .string ⟨#[110]⟩]) rfl (by kernel_rfl) (by kernel_rfl) (by kernel_rfl) (fun _ _ _ h => h) (Or.inl ⟨by rfl, (by intro w' hS; obtain ⟨s1, s2, s3, s4, s5, s6, s7, s8, s9, s10, s11, s12⟩ := hS; go_simp)⟩) hHeld ?_
  simp only [Act.put, List.getElem_toArray, List.getElem_cons_zero, List.getElem_cons_succ, List.setIfInBounds_toArray, List.set_cons_zero, List.set_cons_succ]
  refine wpAnyH_ready (rs := [20]) (by kernel_rfl) (by simp) ?_
  refine AllReadyH.cons rfl (fun K hK => ?_) ?_
  · rw [if_pos (by rfl)]
    go_simp
    refine hK.out _ _ hSA.out (fun hHeld => ?_)
    clear hK K
    try simp only [Act.put, List.getElem_toArray, List.getElem_cons_zero, List.getElem_cons_succ, List.setIfInBounds_toArray, List.set_cons_zero, List.set_cons_succ]
    refine wpAnyH_ready (rs := [21]) (by kernel_rfl) (by simp) ?_
    refine AllReadyH.cons rfl (fun K hK => ?_) ?_
    · rw [if_pos (by rfl)]
      go_simp
      refine hk.out.mono ?_
      rintro e W3 he
      have hq := hfin.out e W3 he
      obtain ⟨rfl, -⟩ := he
      exact ⟨rfl, hq⟩
    exact AllReadyH.nil
  exact AllReadyH.nil
end Go.Proofs.YtgjemghfejaifaaGreatDoor
