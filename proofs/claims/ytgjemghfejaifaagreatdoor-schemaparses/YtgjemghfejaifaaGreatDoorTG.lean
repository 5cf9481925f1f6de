import Derived.Test.YtgjemghfejaifaaGreatDoorTF
import Derived.Recover
import Derived.Laws.Pointers
/-! schema: Fault: the panic is caught. -/
namespace Go.Proofs.YtgjemghfejaifaaGreatDoor
open Go Go.RowKit

set_option maxHeartbeats 2000000 in
set_option maxRecDepth 100000 in
theorem top_seek (r0 p0 c0 mb r1 p1 c1 r2 p2 c2 bn bi : Nat) (w : World) (h : TopAt w r0 p0 mb r1 p1 c1 r2 p2 c2) (hD : DocN w bn bi 0) :
    Calls Tryz.prog 24 #[.slice (some ⟨r0, p0, none⟩) 1 c0, (objU bn bi).v, .pointer none] w (SeekPost w) := by
  have hb0 := (Below.refl _ w).alloc (Nat.le_refl _) ((objU bn bi).obj 25)
  have hb1 := hid_of (hb0.alloc hb0.size (.cells #[.string wProperties, .iface 105 (propsV mb r1 p1 c1)] 84))
  have m0 := stay hb0 h.word
  have m1 := stay hb0 h.rule
  have ta : ∀ w, (Instr.typeAssert (.iface 105 (propsV mb r1 p1 c1)) 78 88 true).run Tryz.prog w = .ok (.tuple #[.iface 105 (propsV mb r1 p1 c1), .bool true]) w := fun w => as_props _ _ w
  have hk := hid_of (props_seek mb r1 p1 c1 r2 p2 c2 bn bi _ (h.props.keep hb1.out) (hD.keep hb1.out))
  unfold V5.v V5.obj objU propsV wProperties at *
  simp only at *
  go_enter Tryz.func24, Tryz.ntmps24
  go_wp2_with fail
  refine wp_loop_rounds 2 ?_
  rw [rounds_succ]
  go_wp2_with fail
  refine hk.out.mono ?_
  rintro e W ⟨pa, rfl, hb, hp⟩
  exact ⟨rfl, pa, rfl, hb1.out.trans (hb.mono hb1.out.size), hp⟩
set_option maxHeartbeats 2000000 in
set_option maxRecDepth 100000 in
theorem fault_do (b2 b3 sb r0 p0 c0 mb r1 p1 c1 r2 p2 c2 bn bi : Nat) (w : World) (hL : LiveAt w sb r0 p0 c0 mb r1 p1 c1 r2 p2 c2) (hD : DocN w bn bi 0) (h2 : w.cell? ⟨b2, 0, none⟩ = some (.pointer (some ⟨sb, 0, none⟩))) (h3 : w.heap[b3]? = some ((objU bn bi).obj 25)) :
    Calls Tryz.prog 23 #[.pointer (some ⟨b2, 0, none⟩), .pointer (some ⟨b3, 0, none⟩)] w (SeekPost w) := by
  have hk := hid_of (top_seek r0 p0 c0 mb r1 p1 c1 r2 p2 c2 bn bi w.drew ⟨hL.top.word, hL.top.rule, ⟨hL.top.props.nums, hL.top.props.sch, ⟨hL.top.props.min.word, hL.top.props.min.rule⟩⟩⟩ ⟨hD.name, hD.i0, hD.i1, hD.i2, hD.i3, hD.i4⟩)
  have w0 : w.drew.cell? ⟨sb, 0, none⟩ = some (.slice (some ⟨r0, p0, none⟩) 1 c0) := hL.whole
  have w2 : w.drew.cell? ⟨b2, 0, none⟩ = some (.pointer (some ⟨sb, 0, none⟩)) := h2
  have hfin : Hid (∀ e w', SeekPost w.drew e w' → SeekPost w e w') := fun e w' ⟨pa, h1, h4, h5⟩ => ⟨pa, h1, ⟨h4.os, h4.tape, h4.output, h4.size, h4.block⟩, h5⟩
  unfold V5.v V5.obj objU at *
  simp only at *
  obtain ⟨y0, y1, y2, y3, y4, -⟩ := row_cells (w := w.drew) h3
  clear h2 h3 hL hD
  go_enter Tryz.func23, Tryz.ntmps23
  go_upto_region 0 with fail
  refine wp_region_held_drew (S := (fun V => V.cell? ⟨sb, 0, none⟩ = some (.slice (some ⟨r0, p0, none⟩) 1 c0) ∧ V.cell? ⟨b2, 0, none⟩ = some (.pointer (some ⟨sb, 0, none⟩)) ∧ V.cell? ⟨b3, 0, none⟩ = some (.int .i64 6) ∧ V.cell? ⟨b3, 1, none⟩ = some (.int .i64 0) ∧ V.cell? ⟨b3, 2, none⟩ = some (.string ⟨#[]⟩) ∧ V.cell? ⟨b3, 3, none⟩ = some (.slice (some ⟨bn, 0, none⟩) 1 1) ∧ V.cell? ⟨b3, 4, none⟩ = some (.slice (some ⟨bi, 0, none⟩) 1 1))) (by kernel_rfl) ⟨w0, w2, y0, y1, y2, y3, y4⟩ (fun hHeld => ?_)
  refine wpAnyH_take (i := 0) (v := .pointer (some ⟨sb, 0, none⟩)) rfl (by kernel_rfl) (by kernel_rfl) (by kernel_rfl) (fun _ _ _ h => h) (Or.inl ⟨by rfl, (by intro w' hS; obtain ⟨s1, s2, s3, s4, s5, s6, s7⟩ := hS; go_simp)⟩) hHeld ?_
  simp only [Act.put, List.getElem_toArray, List.getElem_cons_zero, List.setIfInBounds_toArray, List.set_cons_zero, List.set_cons_succ]
  refine wpAnyH_take (i := 1) (v := .pointer (some ⟨sb, 0, none⟩)) rfl (by kernel_rfl) (by kernel_rfl) (by kernel_rfl) (fun _ _ _ h => h) (Or.inl ⟨by rfl, (by intro w' hS; obtain ⟨s1, s2, s3, s4, s5, s6, s7⟩ := hS; go_simp)⟩) hHeld ?_
  simp only [Act.put, List.getElem_toArray, List.getElem_cons_zero, List.getElem_cons_succ, List.setIfInBounds_toArray, List.set_cons_zero, List.set_cons_succ]
  refine wpAnyH_take (i := 2) (v := .pointer (some ⟨sb, 0, none⟩)) rfl (by kernel_rfl) (by kernel_rfl) (by kernel_rfl) (fun _ _ _ h => h) (Or.inl ⟨by rfl, (by intro w' hS; obtain ⟨s1, s2, s3, s4, s5, s6, s7⟩ := hS; go_simp)⟩) hHeld ?_
  simp only [Act.put, List.getElem_toArray, List.getElem_cons_zero, List.getElem_cons_succ, List.setIfInBounds_toArray, List.set_cons_zero, List.set_cons_succ]
  refine wpAnyH_take (i := 3) (v := .slice (some ⟨r0, p0, none⟩) 1 c0) rfl (by kernel_rfl) (by kernel_rfl) (by kernel_rfl) (fun _ _ _ h => h) (Or.inl ⟨by rfl, (by intro w' hS; obtain ⟨s1, s2, s3, s4, s5, s6, s7⟩ := hS; go_simp)⟩) hHeld ?_
  simp only [Act.put, List.getElem_toArray, List.getElem_cons_zero, List.getElem_cons_succ, List.setIfInBounds_toArray, List.set_cons_zero, List.set_cons_succ]
  refine wpAnyH_take (i := 4) (v := .agg #[.int .i64 6, .int .i64 0, .string ⟨#[]⟩, .slice (some ⟨bn, 0, none⟩) 1 1, .slice (some ⟨bi, 0, none⟩) 1 1]) rfl (by kernel_rfl) (by kernel_rfl) (by kernel_rfl) (fun _ _ _ h => h) (Or.inl ⟨by rfl, (by intro w' hS; obtain ⟨s1, s2, s3, s4, s5, s6, s7⟩ := hS; go_simp)⟩) hHeld ?_
  simp only [Act.put, List.getElem_toArray, List.getElem_cons_zero, List.getElem_cons_succ, List.setIfInBounds_toArray, List.set_cons_zero, List.set_cons_succ]
  refine wpAnyH_ready (rs := [5]) (by kernel_rfl) (by simp) ?_
  refine AllReadyH.cons rfl (fun K hK => ?_) ?_
  · rw [if_pos (by rfl)]
    go_simp
    refine hk.out.mono ?_
    rintro e W3 he
    have hq := hfin.out e W3 he
    obtain ⟨pa, rfl, -⟩ := he
    exact ⟨rfl, hq⟩
  exact AllReadyH.nil
theorem ta_breach (v : Value) (w : World) : (Instr.typeAssert (.iface 62 v) 20 62 true).run Tryz.prog w = .ok (.tuple #[v, .bool true]) w := by kernel_rfl
theorem en_breach (v : Value) (w : World) : (binOp .eql 20 (.iface 62 v) .nilIface).run Tryz.prog w = .ok (.bool false) w := by kernel_rfl
theorem rep10 : (Array.replicate 10 undef : Array Value) = #[undef, undef, undef, undef, undef, undef, undef, undef, undef, undef] := rfl
/-- What the deferred function leaves. -/
structure CaughtB (pb pk : Nat) (p : Value) (s : ByteArray) (w w' : World) : Prop where
  cb : w'.heap[pb]? = some (.cells #[p, .string s] 62 (0, 0))
  ck : w'.heap[pk]? = some (.cells #[.bool true] 4 (0, 0))
  os : w'.os = w.os
  tape : w'.tape = w.tape
  output : w'.output = w.output
  size : w.heap.size ≤ w'.heap.size
  block : ∀ k, k < w.heap.size → k ≠ pb → k ≠ pk → w'.heap[k]? = w.heap[k]?
theorem caught_of {pb pk : Nat} {w : World} {o : Obj} (hne : pb ≠ pk) (p : Value) (s : ByteArray) {d0 d1 d2 : Value} (cb : w.heap[pb]? = some (.cells #[d0, d1] 62 (0, 0))) (ck : w.heap[pk]? = some (.cells #[d2] 4 (0, 0))) :
    CaughtB pb pk p s w ((((w.setCell ⟨pb, 0, none⟩ p).setCell ⟨pb, 1, none⟩ (.string s)).setCell ⟨pk, 0, none⟩ (.bool true)).alloc o) := by
  have lb : pb < w.heap.size := (Array.getElem?_eq_some_iff.1 cb).1
  have lk : pk < w.heap.size := (Array.getElem?_eq_some_iff.1 ck).1
  have hs : (((w.setCell ⟨pb, 0, none⟩ p).setCell ⟨pb, 1, none⟩ (.string s)).setCell ⟨pk, 0, none⟩ (.bool true)).heap.size = w.heap.size := by simp [World.setCell]
  refine ⟨?_, ?_, rfl, rfl, rfl, by simp [World.setCell], fun k hk h1 h2 => ?_⟩
  · rw [Below.heap_alloc _ _ _ (by rw [hs]; exact lb), Below.heap_setCell _ _ _ _ hne]
    simp [World.setCell, Array.getElem?_modify, cb]
  · rw [Below.heap_alloc _ _ _ (by rw [hs]; exact lk)]
    have h1 : (((w.setCell ⟨pb, 0, none⟩ p).setCell ⟨pb, 1, none⟩ (.string s))).heap[pk]? = some (.cells #[d2] 4 (0, 0)) := by
      rw [Below.heap_setCell _ _ _ _ (Ne.symm hne), Below.heap_setCell _ _ _ _ (Ne.symm hne)]; exact ck
    generalize ((w.setCell ⟨pb, 0, none⟩ p).setCell ⟨pb, 1, none⟩ (.string s)) = Y at h1
    simp [World.setCell, Array.getElem?_modify, h1]
  · rw [Below.heap_alloc _ _ _ (by rw [hs]; exact hk), Below.heap_setCell _ _ _ _ h2, Below.heap_setCell _ _ _ _ h1, Below.heap_setCell _ _ _ _ h1]
set_option maxHeartbeats 4000000 in
set_option maxRecDepth 100000 in
theorem catch_breach (pb pk pa : Nat) (s : ByteArray) (hne : pb ≠ pk) (w : World) (cb : w.heap[pb]? = some (.cells #[.pointer none, .string ⟨#[]⟩] 62 (0, 0))) (ck : w.heap[pk]? = some (.cells #[.bool false] 4 (0, 0))) :
    CallsD Tryz.prog 47 #[.pointer (some ⟨pb, 0, none⟩), .pointer (some ⟨pk, 0, none⟩)] (.panicking (breachC (.pointer (some ⟨pa, 0, none⟩)) s)) w fun e' u' w' => e' = .returned (.tuple #[]) ∧ u' = .panicking [{ v := breachV (.pointer (some ⟨pa, 0, none⟩)) s, recovered := true }] ∧ CaughtB pb pk (.pointer (some ⟨pa, 0, none⟩)) s w w' := by
  refine callsD_of_wpS Tryz.func47 rfl fun c₀ cs hu => ?_
  apply wpS_seq
  apply wpS_region
  unfold breachC breachV at hu
  simp [wpOpsS, go_sem, recoverD, hu, Tryz.ntmps47, Exit.thenS, rep10]
  refine wpS_of_wp ?_
  have hfin := fun o => hid_of (caught_of (o := o) hne (.pointer (some ⟨pa, 0, none⟩)) s cb ck)
  have HU : Hid (c₀.mode = FrameMode.panicking [{ v := .iface 62 (.agg #[.pointer (some ⟨pa, 0, none⟩), .string s]), recovered := false }]) := hu
  clear hu
  have lb := (Array.getElem?_eq_some_iff.1 cb).1
  have lk := (Array.getElem?_eq_some_iff.1 ck).1
  have v0 : w.cell? ⟨pb, 0, none⟩ = some (.pointer none) := cell_of cb 0
  have v1 : w.cell? ⟨pb, 1, none⟩ = some (.string ⟨#[]⟩) := cell_of cb 1
  have v2 : w.cell? ⟨pk, 0, none⟩ = some (.bool false) := cell_of ck 0
  have f0 : ∀ j, w.frozen? ⟨pb, j, none⟩ = false := fun j => by simp [World.frozen?, cb]
  have f1 : ∀ j, w.frozen? ⟨pk, j, none⟩ = false := fun j => by simp [World.frozen?, ck]
  have n3 : ¬ pk = pb := fun h => hne h.symm
  have ta := ta_breach
  have en := en_breach
  clear cb ck
  go_wp2_with fail
  exact ⟨rfl, _, rfl, .tuple #[], by simp [results, Tryz.results47, go_sem], rfl, rfl, (hfin _).out⟩
end Go.Proofs.YtgjemghfejaifaaGreatDoor
