import Derived.Test.YtbcfkajcmbckbaaGreatDoorTF
import Derived.Recover
import Derived.Laws.Pointers
/-! schema: Fault: the panic is caught. -/
namespace Go.Proofs.YtbcfkajcmbckbaaGreatDoor
open Go Go.RowKit

set_option maxHeartbeats 2000000 in
set_option maxRecDepth 100000 in
theorem top_seek (r0 p0 c0 mb r1 p1 c1 r2 p2 c2 bn bi : Nat) (w : World) (h : TopAt w r0 p0 mb r1 p1 c1 r2 p2 c2) (hD : DocN w bn bi 0) :
    Calls Tryz.prog 24 #[.slice (some ⟨r0, p0, none⟩) 1 c0, (objU bn bi).v, .pointer none] w (SeekPost w) := by
  have hb0 := (Below.refl _ w).alloc (Nat.le_refl _) ((objU bn bi).obj 25)
  have hb1 := hid_of (hb0.alloc hb0.size (.cells #[.string wProperties, .iface 112 (propsV mb r1 p1 c1)] 90))
  have m0 := stay hb0 h.word
  have m1 := stay hb0 h.rule
  have ta : ∀ w, (Instr.typeAssert (.iface 112 (propsV mb r1 p1 c1)) 84 92 true).run Tryz.prog w = .ok (.tuple #[.iface 112 (propsV mb r1 p1 c1), .bool true]) w := fun w => as_props _ _ w
  have hk := hid_of (props_seek mb r1 p1 c1 r2 p2 c2 bn bi _ (h.props.keep hb1.out) (hD.keep hb1.out))
  unfold V5.v V5.obj objU propsV wProperties at *
  simp only at *
  go_enter Tryz.func24, Tryz.ntmps24
  go_wp2_with fail
  refine wp_loop_rounds 2 ?_
  rw [rounds_succ]
  go_wp2_with fail
  refine hk.out.mono ?_
  rintro e W ⟨pa, rfl, hb, hp⟩
  exact ⟨rfl, pa, rfl, hb1.out.trans (hb.mono hb1.out.size), hp⟩
set_option maxHeartbeats 2000000 in
set_option maxRecDepth 100000 in
theorem fault_do (b2 b3 sb r0 p0 c0 mb r1 p1 c1 r2 p2 c2 bn bi : Nat) (w : World) (hL : LiveAt w sb r0 p0 c0 mb r1 p1 c1 r2 p2 c2) (hD : DocN w bn bi 0) (h2 : w.cell? ⟨b2, 0, none⟩ = some (.pointer (some ⟨sb, 0, none⟩))) (h3 : w.heap[b3]? = some ((objU bn bi).obj 25)) :
    Calls Tryz.prog 23 #[.pointer (some ⟨b2, 0, none⟩), .pointer (some ⟨b3, 0, none⟩)] w (SeekPost w) := by
  have hk := hid_of (top_seek r0 p0 c0 mb r1 p1 c1 r2 p2 c2 bn bi w.drew ⟨hL.top.word, hL.top.rule, ⟨hL.top.props.nums, hL.top.props.sch, ⟨hL.top.props.min.word, hL.top.props.min.rule⟩⟩⟩ ⟨hD.name, hD.i0, hD.i1, hD.i2, hD.i3, hD.i4⟩)
  have w0 : w.drew.cell? ⟨sb, 0, none⟩ = some (.slice (some ⟨r0, p0, none⟩) 1 c0) := hL.whole
  have w2 : w.drew.cell? ⟨b2, 0, none⟩ = some (.pointer (some ⟨sb, 0, none⟩)) := h2
  have hfin : Hid (∀ e w', SeekPost w.drew e w' → SeekPost w e w') := fun e w' ⟨pa, h1, h4, h5⟩ => ⟨pa, h1, ⟨h4.os, h4.tape, h4.output, h4.size, h4.block⟩, h5⟩
  unfold V5.v V5.obj objU at *
  simp only at *
  obtain ⟨y0, y1, y2, y3, y4, -⟩ := row_cells (w := w.drew) h3
  clear h2 h3 hL hD
  go_enter Tryz.func23, Tryz.ntmps23
  go_upto_region 0 with fail
  refine wp_region_held_drew (S := (fun V => V.cell? ⟨sb, 0, none⟩ = some (.slice (some ⟨r0, p0, none⟩) 1 c0) ∧ V.cell? ⟨b2, 0, none⟩ = some (.pointer (some ⟨sb, 0, none⟩)) ∧ V.cell? ⟨b3, 0, none⟩ = some (.int .i64 6) ∧ V.cell? ⟨b3, 1, none⟩ = some (.int .i64 0) ∧ V.cell? ⟨b3, 2, none⟩ = some (.string ⟨#[]⟩) ∧ V.cell? ⟨b3, 3, none⟩ = some (.slice (some ⟨bn, 0, none⟩) 1 1) ∧ V.cell? ⟨b3, 4, none⟩ = some (.slice (some ⟨bi, 0, none⟩) 1 1))) (by kernel_rfl) ⟨w0, w2, y0, y1, y2, y3, y4⟩ (fun hHeld => ?_)
  refine wpAnyH_take (i := 0) (v := .pointer (some ⟨sb, 0, none⟩)) rfl (by kernel_rfl) (by kernel_rfl) (by kernel_rfl) (fun _ _ _ h => h) (Or.inl ⟨by rfl, (by intro w' hS; obtain ⟨s1, s2, s3, s4, s5, s6, s7⟩ := hS; go_simp)⟩) hHeld ?_
  simp only [Act.put, List.getElem_toArray, List.getElem_cons_zero, List.setIfInBounds_toArray, List.set_cons_zero, List.set_cons_succ]
  refine wpAnyH_take (i := 1) (v := .pointer (some ⟨sb, 0, none⟩)) rfl (by kernel_rfl) (by kernel_rfl) (by kernel_rfl) (fun _ _ _ h => h) (Or.inl ⟨by rfl, (by intro w' hS; obtain ⟨s1, s2, s3, s4, s5, s6, s7⟩ := hS; go_simp)⟩) hHeld ?_
  simp only [Act.put, List.getElem_toArray, List.getElem_cons_zero, List.getElem_cons_succ, List.setIfInBounds_toArray, List.set_cons_zero, List.set_cons_succ]
  refine wpAnyH_take (i := 2) (v := .pointer (some ⟨sb, 0, none⟩)) rfl (by kernel_rfl) (by kernel_rfl) (by kernel_rfl) (fun _ _ _ h => h) (Or.inl ⟨by rfl, (by intro w' hS; obtain ⟨s1, s2, s3, s4, s5, s6, s7⟩ := hS; go_simp)⟩) hHeld ?_
  simp only [Act.put, List.getElem_toArray, List.getElem_cons_zero, List.getElem_cons_succ, List.setIfInBounds_toArray, List.set_cons_zero, List.set_cons_succ]
  refine wpAnyH_take (i := 3) (v := .slice (some ⟨r0, p0, none⟩) 1 c0) rfl (by kernel_rfl) (by kernel_rfl) (by kernel_rfl) (fun _ _ _ h => h) (Or.inl ⟨by rfl, (by intro w' hS; obtain ⟨s1, s2, s3, s4, s5, s6, s7⟩ := hS; go_simp)⟩) hHeld ?_
  simp only [Act.put, List.getElem_toArray, List.getElem_cons_zero, List.getElem_cons_succ, List.setIfInBounds_toArray, List.set_cons_zero, List.set_cons_succ]
  refine wpAnyH_take (i := 4) (v := .agg #[.int .i64 6, .int .i64 0, .string ⟨#[]⟩, .slice (some ⟨bn, 0, none⟩) 1 1, .slice (some ⟨bi, 0, none⟩) 1 1]) rfl (by kernel_rfl) (by kernel_rfl) (by kernel_rfl) (fun _ _ _ h => h) (Or.inl ⟨by rfl, (by intro w' hS; obtain ⟨s1, s2, s3, s4, s5, s6, s7⟩ := hS; go_simp)⟩) hHeld ?_
  simp only [Act.put, List.getElem_toArray, List.getElem_cons_zero, List.getElem_cons_succ, List.setIfInBounds_toArray, List.set_cons_zero, List.set_cons_succ]
  refine wpAnyH_ready (rs := [5]) (by kernel_rfl) (by simp) ?_
  refine AllReadyH.cons rfl (fun K hK => ?_) ?_
  · rw [if_pos (by rfl)]
    go_simp
    refine hk.out.mono ?_
    rintro e W3 he
    have hq := hfin.out e W3 he
    obtain ⟨pa, rfl, -⟩ := he
    exact ⟨rfl, hq⟩
  exact AllReadyH.nil
theorem ta_breach (v : Value) (w : World) : (Instr.typeAssert (.iface 65 v) 20 65 true).run Tryz.prog w = .ok (.tuple #[v, .bool true]) w := by kernel_rfl
theorem en_breach (v : Value) (w : World) : (binOp .eql 20 (.iface 65 v) .nilIface).run Tryz.prog w = .ok (.bool false) w := by kernel_rfl
theorem rep10 : (Array.replicate 10 undef : Array Value) = #[undef, undef, undef, undef, undef, undef, undef, undef, undef, undef] := rfl
/-- What the deferred function leaves. -/
structure CaughtB (pb pk : Nat) (p : Value) (s : ByteArray) (w w' : World) : Prop where
  cb : w'.heap[pb]? = some (.cells #[p, .string s] 65 (0, 0))
  ck : w'.heap[pk]? = some (.cells #[.bool true] 4 (0, 0))
  os : w'.os = w.os
  tape : w'.tape = w.tape
  output : w'.output = w.output
  size : w.heap.size ≤ w'.heap.size
  block : ∀ k, k < w.heap.size → k ≠ pb → k ≠ pk → w'.heap[k]? = w.heap[k]?
theorem caught_of {pb pk : Nat} {w : World} {o : Obj} (hne : pb ≠ pk) (p : Value) (s : ByteArray) {d0 d1 d2 : Value} (cb : w.heap[pb]? = some (.cells #[d0, d1] 65 (0, 0))) (ck : w.heap[pk]? = some (.cells #[d2] 4 (0, 0))) :
    CaughtB pb pk p s w ((((w.setCell ⟨pb, 0, none⟩ p).setCell ⟨pb, 1, none⟩ (.string s)).setCell ⟨pk, 0, none⟩ (.bool true)).alloc o) := by
  have lb : pb < w.heap.size := (Array.getElem?_eq_some_iff.1 cb).1
  have lk : pk < w.heap.size := (Array.getElem?_eq_some_iff.1 ck).1
  have hs : (((w.setCell ⟨pb, 0, none⟩ p).setCell ⟨pb, 1, none⟩ (.string s)).setCell ⟨pk, 0, none⟩ (.bool true)).heap.size = w.heap.size := by simp [World.setCell]
  refine ⟨?_, ?_, rfl, rfl, rfl, by simp [World.setCell], fun k hk h1 h2 => ?_⟩
  · rw [Below.heap_alloc _ _ _ (by rw [hs]; exact lb), Below.heap_setCell _ _ _ _ hne]
    simp [World.setCell, Array.getElem?_modify, cb]
  · rw [Below.heap_alloc _ _ _ (by rw [hs]; exact lk)]
    have h1 : (((w.setCell ⟨pb, 0, none⟩ p).setCell ⟨pb, 1, none⟩ (.string s))).heap[pk]? = some (.cells #[d2] 4 (0, 0)) := by
      rw [Below.heap_setCell _ _ _ _ (Ne.symm hne), Below.heap_setCell _ _ _ _ (Ne.symm hne)]; exact ck
    generalize ((w.setCell ⟨pb, 0, none⟩ p).setCell ⟨pb, 1, none⟩ (.string s)) = Y at h1
    simp [World.setCell, Array.getElem?_modify, h1]
  · rw [Below.heap_alloc _ _ _ (by rw [hs]; exact hk), Below.heap_setCell _ _ _ _ h2, Below.heap_setCell _ _ _ _ h1, Below.heap_setCell _ _ _ _ h1]
set_option maxHeartbeats 4000000 in
set_option maxRecDepth 100000 in
theorem catch_breach (pb pk pa : Nat) (s : ByteArray) (hne : pb ≠ pk) (w : World) (cb : w.heap[pb]? = some (.cells #[.pointer none, .string ⟨#[]⟩] 65 (0, 0))) (ck : w.heap[pk]? = some (.cells #[.bool false] 4 (0, 0))) :
    CallsD Tryz.prog 47 #[.pointer (some ⟨pb, 0, none⟩), .pointer (some ⟨pk, 0, none⟩)] (.panicking (breachC (.pointer (some ⟨pa, 0, none⟩)) s)) w fun e' u' w' => e' = .returned (.tuple #[]) ∧ u' = .panicking [{ v := breachV (.pointer (some ⟨pa, 0, none⟩)) s, recovered := true }] ∧ CaughtB pb pk (.pointer (some ⟨pa, 0, none⟩)) s w w' := by
  refine callsD_of_wpS Tryz.func47 rfl fun c₀ cs hu => ?_
  apply wpS_seq
  apply wpS_region
  unfold breachC breachV at hu
  simp [wpOpsS, go_sem, recoverD, hu, Tryz.ntmps47, Exit.thenS, rep10]
  refine wpS_of_wp ?_
  have hfin := fun o => hid_of (caught_of (o := o) hne (.pointer (some ⟨pa, 0, none⟩)) s cb ck)
  have HU : Hid (c₀.mode = FrameMode.panicking [{ v := .iface 65 (.agg #[.pointer (some ⟨pa, 0, none⟩), .string s]), recovered := false }]) := hu
  clear hu
  have lb := (Array.getElem?_eq_some_iff.1 cb).1
  have lk := (Array.getElem?_eq_some_iff.1 ck).1
  have v0 : w.cell? ⟨pb, 0, none⟩ = some (.pointer none) := cell_of cb 0
  have v1 : w.cell? ⟨pb, 1, none⟩ = some (.string ⟨#[]⟩) := cell_of cb 1
  have v2 : w.cell? ⟨pk, 0, none⟩ = some (.bool false) := cell_of ck 0
  have f0 : ∀ j, w.frozen? ⟨pb, j, none⟩ = false := fun j => by simp [World.frozen?, cb]
  have f1 : ∀ j, w.frozen? ⟨pk, j, none⟩ = false := fun j => by simp [World.frozen?, ck]
  have n3 : ¬ pk = pb := fun h => hne h.symm
  have ta := ta_breach
  have en := en_breach
  clear cb ck
  go_wp2_with fail
  exact ⟨rfl, _, rfl, .tuple #[], by simp [results, Tryz.results47, go_sem], rfl, rfl, (hfin _).out⟩
end Go.Proofs.YtbcfkajcmbckbaaGreatDoor
/-! schema: caught; where a fault is told. -/
namespace Go.Proofs.YtbcfkajcmbckbaaGreatDoor
open Go Go.RowKit

set_option maxHeartbeats 4000000 in
set_option maxRecDepth 100000 in
theorem caught_live (b2 b3 sb r0 p0 c0 mb r1 p1 c1 r2 p2 c2 bn bi : Nat) (w : World) (hL : LiveAt w sb r0 p0 c0 mb r1 p1 c1 r2 p2 c2) (hD : DocN w bn bi 0) (h2 : w.cell? ⟨b2, 0, none⟩ = some (.pointer (some ⟨sb, 0, none⟩))) (h3 : w.heap[b3]? = some ((objU bn bi).obj 25)) :
    Calls Tryz.prog 22 #[.func (.func 23) #[] #[.pointer (some ⟨b2, 0, none⟩), .pointer (some ⟨b3, 0, none⟩)]] w fun e w' => ∃ pa, e = .returned (.tuple #[.agg #[.pointer (some ⟨pa, 0, none⟩), .string wMinimum], .bool true]) ∧ Below w.heap.size w w' ∧ PlaceN w' pa := by
  have hb0 := (Below.refl _ w).alloc (Nat.le_refl _) (.cells #[.pointer none, .string ⟨#[]⟩] 65)
  have hb1 := hid_of (hb0.alloc hb0.size (.cells #[.bool false] 4))
  have n1 := new1 w (.cells #[.pointer none, .string ⟨#[]⟩] 65) (.cells #[.bool false] 4)
  have n2 := new2 w (.cells #[.pointer none, .string ⟨#[]⟩] 65) (.cells #[.bool false] 4)
  have hk := hid_of (fault_do b2 b3 sb r0 p0 c0 mb r1 p1 c1 r2 p2 c2 bn bi _ (hL.keep hb1.out) (hD.keep hb1.out) (stay hb1.out h2) (block_keep h3 hb1.out))
  replace n1 := hid_of n1
  replace n2 := hid_of n2
  clear hb0 hL hD h2 h3
  go_enter_defers Tryz.func22, Tryz.ntmps22
  go_wp2_with fail
  refine hk.out.mono ?_
  rintro e W ⟨pa, rfl, hb, hp⟩
  have q1 := block_keep n1.out hb
  have q2 := block_keep n2.out hb
  have hB := hb1.out.trans (hb.mono hb1.out.size)
  clear hk n1 n2 hb hb1
  go_wp2_with fail
  refine leaves_cons (f := 47) (args := #[.pointer (some ⟨w.heap.size, 0, none⟩), .pointer (some ⟨w.heap.size + 1, 0, none⟩)]) (by simp) (by simp [go_sem]) ?_
  refine (catch_breach w.heap.size (w.heap.size + 1) pa wMinimum (by omega) W q1 q2).mono ?_
  rintro e u' W3 ⟨rfl, rfl, hC⟩
  have d0 : W3.cell? ⟨w.heap.size, 0, none⟩ = some (.pointer (some ⟨pa, 0, none⟩)) := cell_of hC.cb 0
  have d1 : W3.cell? ⟨w.heap.size, 1, none⟩ = some (.string wMinimum) := cell_of hC.cb 1
  have d2 : W3.cell? ⟨w.heap.size + 1, 0, none⟩ = some (.bool true) := cell_of hC.ck 0
  have l1 := (Array.getElem?_eq_some_iff.1 q1).1
  have hBB : Below w.heap.size w W3 := hB.trans ⟨hC.os, hC.tape, hC.output, hC.size, fun k hk => hC.block k (by have := hB.size; omega) (by omega) (by omega)⟩
  have hPP : PlaceN W3 pa := by
    have n1 : pa ≠ w.heap.size := by
      rintro rfl
      have := hp.step
      rw [cell_of q1 1] at this
      cases this
    have n2 : pa ≠ w.heap.size + 1 := by
      rintro rfl
      have := hp.up
      rw [cell_of q2 0] at this
      cases this
    exact ⟨(World.cell?_of_block (w := W) (hC.block pa (lt_of_cell hp.up) n1 n2)).trans hp.up, (World.cell?_of_block (w := W) (hC.block pa (lt_of_cell hp.up) n1 n2)).trans hp.step⟩
  simp [Leaves, settle, results, Tryz.results22, go_sem, d0, d1, d2]
  exact ⟨hBB, hPP⟩
set_option maxHeartbeats 1000000 in
set_option maxRecDepth 100000 in
theorem reverse_one (g c : Nat) (w : World) : Calls Tryz.prog 48 #[.slice (some ⟨g, 0, none⟩) 1 c] w fun e w' => e = .returned (.tuple #[]) ∧ Below w.heap.size w w' := by
  go_enter Tryz.func48, Tryz.ntmps48
  go_wp2_with fail
  refine wp_loop_rounds 1 ?_
  rw [rounds_succ]
  go_wp2_with fail
  go_end0
  exact ⟨rfl, Below.refl _ _⟩
theorem path_app {w W3 : World} {pa g o2 c2 : Nat} {xs : List Value} {o : Obj} (u0 : w.cell? ⟨pa, 0, none⟩ = some (.pointer none)) (hA : Appd (w.alloc o) w.heap.size 1 none 0 1 0 ([] ++ xs) g o2 c2 W3) (hBa : Below w.heap.size w (w.alloc o)) {s : ByteArray} (hx : xs = [.string s] := by rfl) :
    Hid (Below w.heap.size w W3) ∧ o2 = 0 ∧ W3.cell? ⟨pa, 0, none⟩ = some (.pointer none) ∧ Hid (1 ≤ c2 ∧ W3.cell? ⟨g, 0, none⟩ = some (.string s)) := by
  subst hx
  have hB : Below w.heap.size w W3 := hBa.trans (hA.fr.below hBa.size (fun i hi => by obtain ⟨⟨o', s', e⟩, -⟩ := hi; cases e))
  have ho : o2 = 0 := by
    rcases hA.at' with ⟨h1, -, -⟩ | ⟨-, h, -⟩
    · cases h1
    · exact h
  subst ho
  obtain ⟨b, o, e, -, h2⟩ := hA.row.cell (j := 0) rfl
  cases e
  exact ⟨hB, rfl, stay hB u0, hA.row.le, h2⟩
set_option maxHeartbeats 4000000 in
set_option maxRecDepth 100000 in
theorem path_one (pa : Nat) (w : World) (hP : PlaceN w pa) :
    Calls Tryz.prog 25 #[.pointer (some ⟨pa, 0, none⟩)] w fun e w' => Below w.heap.size w w' ∧ ∃ g c, e = .returned (.slice (some ⟨g, 0, none⟩) 1 c) ∧ 1 ≤ c ∧ w'.cell? ⟨g, 0, none⟩ = some (.string wN) := by
  obtain ⟨ri, hri, hri1, hri2, hri3⟩ := info_parts A9
  have u0 := hP.up
  have u1 := hP.step
  unfold wN at *
  have hsrc := hid_of (Src.of_block (P := Tryz.prog) (size := 1) Tryz.underlying22 (heap_alloc_new w (.cells #[.string ⟨#[110]⟩] 9)) 1 1 rfl (by intro u hu; simp at hu; subst hu; rfl))
  have hBa := hid_of ((Below.refl _ w).alloc (Nat.le_refl _) (.cells #[.string ⟨#[110]⟩] 9))
  have hRw := hid_of (Rw.nil (w.alloc (.cells #[.string ⟨#[110]⟩] 9)) w.heap.size 1 none)
  have hr := fun g c W => hid_of (reverse_one g c W)
  go_enter Tryz.func25, Tryz.ntmps25
  go_wp2_with fail
  refine wp_loop_rounds 2 ?_
  rw [rounds_succ]
  go_wp2_with (at_builtin; refine wpList_append_rw _ rfl _ _ 22 rfl 9 ri _ 1 16 Tryz.underlying22 hri hri1 hri2 hri3 rfl w.heap.size none 0 0 [] rfl hRw.out.len hRw.out.le hRw.out.mx hRw.out.rd _ rfl 1 _ hsrc.out (fun _ => hRw.out) (by decide) (by decide) (by decide) hBa.out.size ?_; intro g o2 c2 W3 hA; replace hA := hid_of hA; obtain ⟨hB3, ho3, v0, v1⟩ : Hid (Below w.heap.size w W3) ∧ o2 = 0 ∧ W3.cell? ⟨pa, 0, none⟩ = some (.pointer none) ∧ Hid (1 ≤ c2 ∧ W3.cell? ⟨g, 0, none⟩ = some (.string ⟨#[110]⟩)) := path_app u0 hA.out hBa.out; subst ho3; clear u0 u1)
  rw [rounds_succ]
  go_wp2_with fail
  refine (hr _ _ _).out.mono ?_
  rintro e W4 ⟨rfl, hb4⟩
  have hB4 := hid_of (hB3.out.trans (hb4.mono hB3.out.size))
  have z0 := hid_of (stay hb4 v1.out.2)
  clear hb4 v0 hr hA hsrc hRw
  go_wp2_with fail
  go_ret
  exact ⟨hB4.out, g, c2, rfl, v1.out.1, z0.out⟩
end Go.Proofs.YtbcfkajcmbckbaaGreatDoor
/-! schema: Fault of {"n": 0}; live. -/
namespace Go.Proofs.YtbcfkajcmbckbaaGreatDoor
open Go Go.RowKit

set_option maxHeartbeats 4000000 in
set_option maxRecDepth 100000 in
theorem fault_live (sb r0 p0 c0 mb r1 p1 c1 r2 p2 c2 bn bi : Nat) (w : World) (hL : LiveAt w sb r0 p0 c0 mb r1 p1 c1 r2 p2 c2) (hD : DocN w bn bi 0) :
    Calls Tryz.prog 15 #[.pointer (some ⟨sb, 0, none⟩), (objU bn bi).v] w fun e w' => Below w.heap.size w w' ∧ ∃ g c, e = .returned (.tuple #[.slice (some ⟨g, 0, none⟩) 1 c, .string wMinimum, .bool true]) ∧ 1 ≤ c ∧ w'.cell? ⟨g, 0, none⟩ = some (.string wN) := by
  have hb0 := (Below.refl _ w).alloc (Nat.le_refl _) (.cells #[.pointer (some ⟨sb, 0, none⟩)] 39)
  have hb1 := hid_of (hb0.alloc hb0.size ((objU bn bi).obj 25))
  have n1 := new1 w (.cells #[.pointer (some ⟨sb, 0, none⟩)] 39) ((objU bn bi).obj 25)
  have n2 := new2 w (.cells #[.pointer (some ⟨sb, 0, none⟩)] 39) ((objU bn bi).obj 25)
  have hk := hid_of (caught_live w.heap.size (w.heap.size + 1) sb r0 p0 c0 mb r1 p1 c1 r2 p2 c2 bn bi _ (hL.keep hb1.out) (hD.keep hb1.out) (cell_of n1 0) n2)
  unfold V5.obj V5.v objU at *
  simp only at *
  clear n1 n2 hb0 hL hD
  go_enter Tryz.func15, Tryz.ntmps15
  go_wp2_with fail
  refine hk.out.mono ?_
  rintro e W ⟨pa, rfl, hb, hp⟩
  have hB := hid_of (hb1.out.trans (hb.mono hb1.out.size))
  have hB2 := hid_of (hB.out.alloc hB.out.size (.cells #[.pointer (some ⟨pa, 0, none⟩), .string wMinimum] 65))
  have kb := heap_alloc_new W (.cells #[.pointer (some ⟨pa, 0, none⟩), .string wMinimum] 65)
  have hp2 := hp.keep ((Below.refl _ W).alloc (Nat.le_refl _) (.cells #[.pointer (some ⟨pa, 0, none⟩), .string wMinimum] 65))
  clear hk hb hp hb1
  go_upto_region 4 with fail
  generalize W.alloc (.cells #[.pointer (some ⟨pa, 0, none⟩), .string wMinimum] 65) = W2 at *
  have b0 : W2.drew.cell? ⟨W.heap.size, 0, none⟩ = some (.pointer (some ⟨pa, 0, none⟩)) := cell_of kb 0
  have b1 : W2.drew.cell? ⟨W.heap.size, 1, none⟩ = some (.string wMinimum) := cell_of kb 1
  have hpt := hid_of (path_one pa W2.drew ⟨hp2.up, hp2.step⟩)
  have hB3 : Hid (Below w.heap.size w W2.drew) := below_drew hB2.out
  clear kb hp2 hB2
  go_region_held3 (fun V => V.cell? ⟨W.heap.size, 0, none⟩ = some (.pointer (some ⟨pa, 0, none⟩)) ∧ V.cell? ⟨W.heap.size, 1, none⟩ = some (.string wMinimum)) (go_keep) (first
    | (go_at_call 25; refine hpt.out.mono ?_; rintro e W3 ⟨hb3, g, c, rfl, hc, hg⟩; have d0 := stay hb3 b0; have d1 := stay hb3 b1; have hB4 := hid_of (hB3.out.trans (hb3.mono hB3.out.size)); replace hg := hid_of hg; clear hb3 b0 b1))
  all_goals
    clear d0 d1 hpt
    go_wp2_with fail
    refine bodyPost_ret (v := .tuple #[.slice (some ⟨g, 0, none⟩) 1 c, .string wMinimum, .bool true]) (by simp [results, Tryz.results15, go_sem]) rfl ?_
    exact ⟨hB4.out, g, c, rfl, hc, hg.out⟩
theorem number_any (x : Int) (w : World) : Calls Tryz.prog 13 #[.int .i64 x] w fun e w' => e = .returned (numU x).v ∧ Below w.heap.size w w' := by
  unfold V5.v numU
  go_enter Tryz.func13, Tryz.ntmps13
  go_wp2
  go_returns
  exact ⟨rfl, (Below.refl _ w).alloc (Nat.le_refl _) _⟩
theorem num_any (z : Int) (w : World) : Calls Tryz.prog 14 #[.int .i64 z] w fun e w' => e = .returned (.int .i64 z) ∧ w' = w := by
  go_enter Tryz.func14, Tryz.ntmps14
  go_wp2
  go_ret
  exact ⟨rfl, rfl⟩
/-- The five cells of a Value. -/
def FiveAt (w : World) (b : Nat) (u : V5) : Prop := ∀ j v, u.cs[j]? = some v → w.cell? ⟨b, j, none⟩ = some v
theorem FiveAt.keep {w w' : World} {b : Nat} {u : V5} (h : FiveAt w b u) (hb : Below w.heap.size w w') : FiveAt w' b u := fun j v hj => stay hb (h j v hj)
set_option maxHeartbeats 1000000 in
set_option maxRecDepth 100000 in
theorem object_any (s : ByteArray) (u : V5) (w : World) :
    Calls Tryz.prog 5 #[.string s, u.v] w fun e w' => Below w.heap.size w w' ∧ ∃ bn bi, e = .returned (objU bn bi).v ∧ w'.cell? ⟨bn, 0, none⟩ = some (.string s) ∧ FiveAt w' bi u := by
  unfold V5.v objU
  simp only
  go_enter Tryz.func5, Tryz.ntmps5
  go_wp2
  go_returns
  refine ⟨?_, w.heap.size + 1 + 1, w.heap.size + 1 + 1 + 1, rfl, ?_, ?_⟩
  · exact ((((Below.refl _ w).alloc (Nat.le_refl _) _).alloc (by simp) _).alloc (by simp; omega) _).alloc (by simp; omega) _
  · exact cell_alloc' (cell_of (heap_new' (by simp)) 0) _
  · intro j v hj
    rw [cell_of (heap_new' (by simp)) j]
    unfold V5.cs five at hj
    simpa using hj
end Go.Proofs.YtbcfkajcmbckbaaGreatDoor
/-! schema: live. -/
namespace Go.Proofs.YtbcfkajcmbckbaaGreatDoor
open Go Go.RowKit

def numT (x : Int) : Tr := .node 3 x ⟨#[]⟩ [] []
def objT (s : ByteArray) (t : Tr) : Tr := .node 6 0 ⟨#[]⟩ [s] [t]
theorem vrep_num (w : World) (x : Int) : VRep w (numT x) (numU x).cs := by
  unfold numT VRep V5.cs numU
  exact ⟨_, none, 0, rfl, ⟨none, 0, rfl, ⟨Nat.le_refl _, by omega⟩, .inl rfl⟩, ⟨Nat.le_refl _, by omega⟩, .inl rfl⟩
theorem vrep_obj {w : World} {s : ByteArray} {t : Tr} {u : V5} {bn bi : Nat} (hn : w.cell? ⟨bn, 0, none⟩ = some (.string s)) (hF : FiveAt w bi u) (ht : VRep w t u.cs) : VRep w (objT s t) (objU bn bi).cs := by
  unfold objT VRep V5.cs objU
  refine ⟨_, _, 1, rfl, ⟨_, 1, rfl, ⟨Nat.le_refl _, by decide⟩, .inr ⟨bn, 0, rfl, lt_of_cell hn, fun j v hj => ?_⟩⟩, ⟨Nat.le_refl _, by decide⟩, .inr ⟨bi, 0, rfl, lt_of_cell (hF 0 _ rfl), ?_⟩⟩
  · have hl := (List.getElem?_eq_some_iff.1 hj).1
    have : j = 0 := by simp at hl; exact hl
    subst this
    have : s = v := by simpa using hj
    rw [← this]; exact hn
  · unfold VRepL
    exact ⟨u.cs, fun j v hj => by rw [Nat.zero_add]; exact hF j v hj, ht, by unfold VRepL; trivial⟩
/-- live's schema. -/
def liveT : Tr := objT wProperties (objT wN (objT wMinimum (numT 1)))
theorem live_small : SmallT liveT := by
  unfold liveT objT numT
  simp only [SmallT, SmallL]
  refine ⟨by decide, by decide, ?_, by decide, ⟨by decide, by decide, ?_, by decide, ⟨by decide, by decide, ?_, by decide, ⟨by decide, by decide, by simp, by decide, trivial⟩, trivial⟩, trivial⟩, trivial⟩
  all_goals
    intro n hn
    rw [List.mem_singleton.1 hn]
    decide
theorem live_z : parseZ liveT = 0 := by decide +kernel
theorem live_of {w w' : World} {p : Value} (h : SchemaAt w w' liveT p) : ∃ sb r0 p0 c0 mb r1 p1 c1 r2 p2 c2, p = .pointer (some ⟨sb, 0, none⟩) ∧ LiveAt w' sb r0 p0 c0 mb r1 p1 c1 r2 p2 c2 := by
  obtain ⟨sb, a, c, rfl, -, h1, h2⟩ := h
  rcases h2 with h2 | ⟨r0, p0, rfl, -, h2⟩
  · cases h2
  unfold liveT objT numT at h1 h2
  simp only [Tr.names, Tr.items] at h1 h2
  unfold RulesL at h2
  obtain ⟨a1, ⟨r, a2, a3⟩, -⟩ := h2
  unfold RuleR at a3
  obtain ⟨-, a4, -⟩ := a3
  obtain ⟨mb, a', c1, rfl, -, a5, a6⟩ := a4 (by decide +kernel)
  rcases a6 with a6 | ⟨r1, p1, rfl, -, a6⟩
  · cases a6
  unfold SchemasL at a6
  obtain ⟨⟨a', c2, a7, a8⟩, -⟩ := a6
  rcases a8 with a8 | ⟨r2, p2, rfl, -, a8⟩
  · cases a8
  unfold RulesL at a8
  obtain ⟨a9, ⟨r, a10, a11⟩, -⟩ := a8
  unfold RuleR at a11
  have a12 := a11.2.2.2.2.2.2.2.2 (by decide +kernel) (by decide +kernel)
  have hw : wordNo ([wMinimum].headD noS) = 10 := by decide +kernel
  rw [hw] at a12
  replace a12 : r = .iface 121 (boundI 1) := a12
  subst a12
  exact ⟨sb, r0, p0, c, mb, r1, p1, c1, r2, p2, c2, rfl, ⟨cell_of h1 0, ⟨a1, a2, ⟨a5, a7, ⟨a9, a10⟩⟩⟩⟩⟩
/-- What the law's program leans on. -/
structure EnvL (w : World) : Prop where
  utf : Lib.Utf8Tabs 1 2 w
  tys : TysAt w
  big : 3 ≤ w.heap.size
theorem EnvL.keep {w w' : World} (h : EnvL w) (hb : Below w.heap.size w w') : EnvL w' :=
  ⟨utf_below h.utf hb h.big, h.tys.keep (hb.block _ (lt_of_cell (h.tys 0 (by decide)))), Nat.le_trans h.big hb.size⟩
set_option maxHeartbeats 8000000 in
set_option maxRecDepth 100000 in
theorem live_any (w : World) (hE : Hid (EnvL w)) : Calls Tryz.prog 7 #[] w fun e w' => e = .returned (.bool true) ∧ Below w.heap.size w w' := by
  have hnum := fun z W => hid_of (num_any z W)
  go_enter Tryz.func7, Tryz.ntmps7
  go_wp2_with fail
  refine (number_any 1 _).mono ?_
  rintro e W1 ⟨rfl, hb1⟩
  replace hb1 := hid_of hb1
  unfold V5.v numU
  go_wp2_with fail
  refine (object_any _ (numU 1) _).mono ?_
  rintro e W2 ⟨hb2, n2, i2, rfl, hn2, hi2⟩
  have hB2 := hid_of (hb1.out.trans (hb2.mono hb1.out.size))
  have hV2 := hid_of (vrep_obj hn2 hi2 (vrep_num _ 1))
  clear hb1 hb2 hn2 hi2
  unfold V5.v objU
  go_wp2_with fail
  refine (object_any _ (objU n2 i2) _).mono ?_
  rintro e W3 ⟨hb3, n3, i3, rfl, hn3, hi3⟩
  have hB3 := hid_of (hB2.out.trans (hb3.mono hB2.out.size))
  have hV3 := hid_of (vrep_obj hn3 hi3 (VRep.keep hb3 _ _ hV2.out))
  clear hb3 hn3 hi3 hV2 hB2
  unfold V5.v objU
  go_wp2_with fail
  refine (object_any _ (objU n3 i3) _).mono ?_
  rintro e W4 ⟨hb4, n4, i4, rfl, hn4, hi4⟩
  have hB4 := hid_of (hB3.out.trans (hb4.mono hB3.out.size))
  have hV4 : Hid (VRep W4 liveT (objU n4 i4).cs) := vrep_obj hn4 hi4 (VRep.keep hb4 _ _ hV3.out)
  clear hb4 hn4 hi4 hV3 hB3
  have hE4 := hid_of (hE.out.keep hB4.out)
  have hps := hid_of (parse_any liveT (objU n4 i4) W4 hV4 (hid_of live_small) (hid_of hE4.out.utf) (hid_of hE4.out.tys) hE4.out.big)
  unfold V5.v objU at hps ⊢
  go_wp2_with fail
  refine hps.out.mono ?_
  rintro e W5 hP
  obtain ⟨p, rfl, -, hp⟩ := hP.ret
  obtain ⟨sb, r0, p0, c0, mb, r1, p1, c1, r2, p2, c2, rfl, hL⟩ := live_of (hp live_z)
  have hB5 := hid_of (hB4.out.trans (hP.below.mono hB4.out.size))
  replace hL := hid_of hL
  rw [live_z]
  clear hP hp hps hV4 hE4 hB4
  go_wp2_with fail
  refine (hnum _ _).out.mono ?_
  rintro e Z ⟨rfl, hZ⟩
  obtain rfl : W5 = Z := hZ.symm
  clear hZ
  go_wp2_with fail
  refine (number_any 0 _).mono ?_
  rintro e Na ⟨rfl, hba⟩
  replace hba := hid_of hba
  unfold V5.v numU
  go_wp2_with fail
  refine (object_any _ (numU 0) _).mono ?_
  rintro e Da ⟨hca, bna, bia, rfl, hna, hia⟩
  have hBa := hid_of (hba.out.trans (hca.mono hba.out.size))
  have hDa : Hid (DocN Da bna bia 0) := ⟨hna, hia 0 _ rfl, hia 1 _ rfl, hia 2 _ rfl, hia 3 _ rfl, hia 4 _ rfl⟩
  clear hba hca hna hia
  have hft := hid_of (fault_live sb r0 p0 c0 mb r1 p1 c1 r2 p2 c2 bna bia Da (hL.out.keep hBa.out) hDa.out)
  unfold V5.v objU at hft ⊢
  go_wp2_with fail
  refine hft.out.mono ?_
  rintro e W6 ⟨hb6, g, cg, rfl, hcg, hg⟩
  have hB6 := hid_of (hBa.out.trans (hb6.mono hBa.out.size))
  have hL6 := hid_of (hL.out.keep hB6.out)
  replace hB5 := hid_of (hB5.out.trans (hB6.out.mono hB5.out.size))
  replace hg := hid_of hg
  clear hb6 hft hBa hDa hL hB6
  go_wp2_with fail
  refine (number_any 1 _).mono ?_
  rintro e Nb ⟨rfl, hbb⟩
  replace hbb := hid_of hbb
  unfold V5.v numU
  go_wp2_with fail
  refine (object_any _ (numU 1) _).mono ?_
  rintro e Db ⟨hcb, bnb, bib, rfl, hnb, hib⟩
  have hBb := hid_of (hbb.out.trans (hcb.mono hbb.out.size))
  have hDb : Hid (DocN Db bnb bib 1) := ⟨hnb, hib 0 _ rfl, hib 1 _ rfl, hib 2 _ rfl, hib 3 _ rfl, hib 4 _ rfl⟩
  clear hbb hcb hnb hib
  have hc1 := hid_of (check_live sb r0 p0 c0 mb r1 p1 c1 r2 p2 c2 bnb bib 1 Db (hL6.out.keep hBb.out) hDb.out)
  rw [if_pos (by decide)] at hc1
  unfold V5.v objU at hc1 ⊢
  go_wp2_with fail
  refine hc1.out.mono ?_
  rintro e W7 ⟨rfl, hb7⟩
  have hB7 := hid_of (hBb.out.trans (hb7.mono hBb.out.size))
  clear hb7 hc1 hBb hDb
  go_wp2_with fail
  refine (hnum _ _).out.mono ?_
  rintro e Z ⟨rfl, hZ⟩
  obtain rfl : W7 = Z := hZ.symm
  clear hZ
  go_wp2_with fail
  refine (number_any 0 _).mono ?_
  rintro e Nc ⟨rfl, hbc⟩
  replace hbc := hid_of hbc
  unfold V5.v numU
  go_wp2_with fail
  refine (object_any _ (numU 0) _).mono ?_
  rintro e Dc ⟨hcc, bnc, bic, rfl, hnc, hic⟩
  have hBc := hid_of (hbc.out.trans (hcc.mono hbc.out.size))
  have hDc : Hid (DocN Dc bnc bic 0) := ⟨hnc, hic 0 _ rfl, hic 1 _ rfl, hic 2 _ rfl, hic 3 _ rfl, hic 4 _ rfl⟩
  clear hbc hcc hnc hic
  have hB8 := hid_of (hB7.out.trans (hBc.out.mono hB7.out.size))
  have hc0 := hid_of (check_live sb r0 p0 c0 mb r1 p1 c1 r2 p2 c2 bnc bic 0 Dc (hL6.out.keep hB8.out) hDc.out)
  rw [if_neg (by decide)] at hc0
  unfold V5.v objU at hc0 ⊢
  go_wp2_with fail
  refine hc0.out.mono ?_
  rintro e W8 ⟨rfl, hb8⟩
  have hB9 := hid_of (hB8.out.trans (hb8.mono hB8.out.size))
  clear hb8 hc0 hBc hDc hB7 hB8
  go_wp2_with fail
  refine (hnum _ _).out.mono ?_
  rintro e Z ⟨rfl, hZ⟩
  obtain rfl : W8 = Z := hZ.symm
  clear hZ
  have gg := stay hB9.out hg.out
  have hBf := hid_of (hB5.out.trans (hB9.out.mono hB5.out.size))
  unfold wMinimum wN at *
  clear hL6 hB9 hB5 hg hnum hE
  have hcg' : ¬ (cg : Int) = 0 := by omega
  go_wp2_with fail
  go_ret
  exact ⟨rfl, hBf.out⟩
end Go.Proofs.YtbcfkajcmbckbaaGreatDoor
