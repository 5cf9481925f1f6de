import Derived.Test.YtnlljodmkacmlaaGreatDoorJW
import Derived.Deep.DeepHandedRow
import Derived.Test.YtnlljodmkacmlaaGreatDoorRows
import Derived.LaidLaws
import Derived.Lay
import Derived.KernelRfl
import Derived.ProofKit
import Derived.OpenShut
import Derived.MakeChecks
import Derived.SizedLaws
import Derived.Carry
import Derived.ChangeMaps5
import Derived.Test.YtnlljodmkacmlaaGreatDoorKA
import Derived.Deep.Slices
import Derived.ChangeArms
/-! The row IndexNames. -/
namespace Go.Proofs.YtnlljodmkacmlaaGreatDoor
open Go Go.ChangeShapes Go.WideShapes Go.ChangeAt Go.RowKit

theorem own_knob : ownKnob Tryz.prog.godebug = none := by kernel_rfl
set_option maxRecDepth 100000 in
set_option maxHeartbeats 4000000 in
theorem names_true (w : World) : Calls Tryz.prog 3 #[] w fun e w' => e = .returned (.bool true) ∧ Below w.heap.size w w' := by
  have hn1 := hid_of (num17 170 w)
  have hn2 := hid_of (num17 171 w)
  have hlv := hid_of (live_any w)
  go_enter Tryz.func3, Tryz.ntmps3
  go_wp2_with fail
  refine hn1.out.mono ?_
  rintro e Z ⟨rfl, hZ⟩
  obtain rfl : w = Z := hZ.symm
  clear hZ hn1
  go_wp2_with fail
  refine hn2.out.mono ?_
  rintro e Z ⟨rfl, hZ⟩
  obtain rfl : w = Z := hZ.symm
  clear hZ hn2
  go_wp2_with fail
  refine hlv.out.mono ?_
  rintro e W1 ⟨rfl, hB1⟩
  replace hB1 := hid_of hB1
  clear hlv
  go_wp2_with fail
  go_ret
  exact ⟨rfl, hB1.out⟩
set_option maxRecDepth 100000 in
theorem names_lifted (os : Os) (started : os.Started) (H : Type) (enc : TypeId × Value → H) :
    ReturnsInHanded {} Tryz.checked os 3 .any (fun w args => (Rows.indexNamesSpec.pre enc Tryz.prog Tryz.f3 [] false w args ∧ laidMetH Tryz.prog Rows.indexNamesRow.laid w) ∧ sizedMet enc Tryz.prog Tryz.f3 (OpenSpec.ofChange Rows.indexNamesSpec) false w args)
      (Rows.indexNamesSpec.post enc Tryz.prog Tryz.f3 false true false false) := by
  refine returnsInHanded_of_change_and (C := Tryz.checked) (X := fun w _ => laidMetH Tryz.prog Rows.indexNamesRow.laid w) (fun _ _ _ hh h => h.of_heap hh) own_knob started (by kernel_rfl) Tryz.func3
    (ChangeSpec.witness_shaped (enc := enc) (C := Tryz.checked) (os := os) (X := fun w _ => laidMetH Tryz.prog Rows.indexNamesRow.laid w) false (World.laidAll Tryz.prog os Rows.indexNamesRow.laid) #[] 8 (World.laidAll_os _ _ _)
      (World.shaped_of_ZipB (by kernel_rfl) (by kernel_rfl)) (by kernel_rfl) (by kernel_rfl) (by kernel_rfl)
      (by rw [MakeChecks.laidMetH_plain _ _ _ (by kernel_rfl)]; exact laidMet_laidAll _ (by kernel_rfl) (by kernel_rfl))) ?_
  intro W base args ds gs before hval0 hW _ hsz0 _ _
  have hW' := hW
  obtain ⟨p, q, hA0, hV, rfl, _, _⟩ := hW
  have hA : DataW.TrodAll enc Tryz.prog W 0 (fun _ => true) true Tryz.f3.params.toList args.toList ds p := hA0
  rw [Tryz.params3] at hA
  obtain ⟨rfl, rfl, rfl⟩ := trodAll_none hA
  obtain ⟨rfl, rfl⟩ := trodVars_none hV
  simp only [List.append_nil] at hW'
  refine (names_true W).mono fun e W' ⟨he, hb⟩ => ?_
  subst he
  exact ⟨_, rfl, _, _, _, [], [], [], hW', trodAll_mk1 (shut_bool Tryz.underlying4 _), rfl, rfl, hb.frame _, fun h => by cases h⟩
theorem names_holds : Rows.IndexNamesSaid :=
  OpenClaim.holds_of_wide 3 Tryz.f3 rfl rfl rfl rfl rfl rfl rfl ⟨rfl, rfl, rfl, rfl, rfl⟩ rfl rfl rfl rfl rfl (by kernel_rfl) Tryz.func3 (by kernel_rfl)
    (of_decide_eq_true (by kernel_rfl)) (by unfold Func.isWrapper; first | (rw [if_pos (by decide +kernel)]; kernel_rfl) | (rw [if_neg (by decide +kernel)]; exact ⟨rfl, rfl⟩))
    (fun os started H enc _ => names_lifted os started H enc)
end Go.Proofs.YtnlljodmkacmlaaGreatDoor
/-! The row IndexNil. -/
namespace Go.Proofs.YtnlljodmkacmlaaGreatDoor
open Go Go.ChangeShapes Go.WideShapes Go.ChangeAt Go.RowKit Ap
theorem cells7 {w : World} {b : Nat} {x0 x1 x2 x3 x4 x5 x6 : Value} {t : TypeId} (h : w.heap[b]? = some (.cells #[x0, x1, x2, x3, x4, x5, x6] t (0, 0))) : w.cell? ⟨b, 0, none⟩ = some x0 ∧ w.cell? ⟨b, 1, none⟩ = some x1 ∧ w.cell? ⟨b, 2, none⟩ = some x2 ∧ w.cell? ⟨b, 3, none⟩ = some x3 ∧ w.cell? ⟨b, 4, none⟩ = some x4 ∧ w.cell? ⟨b, 5, none⟩ = some x5 ∧ w.cell? ⟨b, 6, none⟩ = some x6 := by
  simp [World.cell?, h]
theorem laid_out : laidOutB Tryz.prog = true := by kernel_rfl
theorem items_u : Tryz.prog.underlying 31 = some (.slice 60) := by kernel_rfl
theorem vals_u : Tryz.prog.underlying 26 = some (.slice 28) := by kernel_rfl
theorem strs_u : Tryz.prog.underlying 25 = some (.slice 9) := by kernel_rfl
theorem item_cellsN : Tryz.prog.cellsOf 60 = 7 := by kernel_rfl
theorem val_cells : Tryz.prog.cellsOf 28 = 5 := by kernel_rfl
theorem int_cell : Tryz.prog.cellsOf 3 = 1 := by kernel_rfl
theorem i64_cell : Tryz.prog.cellsOf 2 = 1 := by kernel_rfl
theorem str_cell : Tryz.prog.cellsOf 9 = 1 := by kernel_rfl
theorem strs_cell : Tryz.prog.cellsOf 25 = 1 := by kernel_rfl
theorem vals_cell : Tryz.prog.cellsOf 26 = 1 := by kernel_rfl
theorem item_bytes : Tryz.prog.bytesOf 60 = 104 := by kernel_rfl
theorem int_u : Tryz.prog.underlying 3 = some (.int .i64) := by kernel_rfl
theorem i64_u : Tryz.prog.underlying 2 = some (.int .i64) := by kernel_rfl
theorem str_u : Tryz.prog.underlying 9 = some .string := by kernel_rfl
theorem item_fields : ∃ f0 f1 f2 : Field, Tryz.prog.underlying 60 = some (.struct #[f0, f1, f2]) ∧ (f0.offset = 0 ∧ f1.offset = 1 ∧ f2.offset = 2) ∧ f0.type = 9 ∧ f1.type = 2 ∧ f2.type = 28 := ⟨_, _, _, Tryz.underlying60, ⟨rfl, rfl, rfl⟩, rfl, rfl, rfl⟩
theorem val_fields : ∃ f0 f1 f2 f3 f4 : Field, Tryz.prog.underlying 28 = some (.struct #[f0, f1, f2, f3, f4]) ∧ (f0.offset = 0 ∧ f1.offset = 1 ∧ f2.offset = 2 ∧ f3.offset = 3 ∧ f4.offset = 4) ∧ f0.type = 3 ∧ f1.type = 2 ∧ f2.type = 9 ∧ f3.type = 25 ∧ f4.type = 26 := ⟨_, _, _, _, _, Tryz.underlying28, ⟨rfl, rfl, rfl, rfl, rfl⟩, rfl, rfl, rfl, rfl, rfl⟩
section
variable {H : Type} {enc : TypeId × Value → H} {w : World} {base : Nat} {spare : Nat → Bool} {held : Bool}
theorem open_one {t e : TypeId} (hu : Tryz.prog.underlying t = some (.slice e)) {fuel : Nat} {cs : List Value} {x : DataW H × List MemPlace} (h : DataW.trod enc Tryz.prog w base spare held fuel t cs = some x) : ∀ u ∈ cs, u.oneCell' = true := by
  rcases Go.Deep.open_slice hu h with ⟨h0, -⟩ | ⟨a', len, cap, m, n, D, Pl, h0, -⟩
  · rw [h0]; simp [Value.oneCell']
  · rw [h0]; simp [Value.oneCell']
set_option maxRecDepth 100000 in
theorem open_val {fuel : Nat} {cs : List Value} {x : DataW H × List MemPlace} (h : DataW.trod enc Tryz.prog w base spare held fuel 28 cs = some x) : ∀ u ∈ cs, u.oneCell' = true := by
  obtain ⟨f0, f1, f2, f3, f4, hu, ⟨o0, o1, o2, o3, o4⟩, t0, t1, t2, t3, t4⟩ := val_fields
  obtain ⟨xs, m, -, -, hl, hxl, hf⟩ := DataW.trod_struct hu h
  rw [val_cells] at hl
  match xs, hxl, cs, hl with
  | [y0, y1, y2, y3, y4], _, [v0, v1, v2, v3, v4], _ =>
    have g0 := hf 0 f0 rfl
    have g1 := hf 1 f1 rfl
    have g2 := hf 2 f2 rfl
    have g3 := hf 3 f3 rfl
    have g4 := hf 4 f4 rfl
    simp [o0, o1, o2, o3, o4, t0, t1, t2, t3, t4, int_cell, i64_cell, str_cell, strs_cell, vals_cell] at g0 g1 g2 g3 g4
    obtain ⟨a0, e0, -, -⟩ := DataW.trod_int int_u g0
    obtain ⟨a1, e1, -, -⟩ := DataW.trod_int i64_u g1
    obtain ⟨a2, e2, -, -⟩ := DataW.trod_string str_u g2
    have e3 := open_one strs_u g3 v3 (by simp)
    have e4 := open_one vals_u g4 v4 (by simp)
    simp at e0 e1 e2
    intro u hu
    simp at hu
    rcases hu with rfl | rfl | rfl | rfl | rfl
    · rw [e0]; rfl
    · rw [e1]; rfl
    · rw [e2]; rfl
    · exact e3
    · exact e4
set_option maxRecDepth 100000 in
theorem open_item {fuel : Nat} {cs : List Value} {x : DataW H × List MemPlace} (h : DataW.trod enc Tryz.prog w base spare held fuel 60 cs = some x) : cs.length = 7 ∧ ∀ u ∈ cs, u.oneCell' = true := by
  obtain ⟨f0, f1, f2, hu, ⟨o0, o1, o2⟩, t0, t1, t2⟩ := item_fields
  obtain ⟨xs, m, -, -, hl, hxl, hf⟩ := DataW.trod_struct hu h
  rw [item_cellsN] at hl
  refine ⟨hl, ?_⟩
  match xs, hxl, cs, hl with
  | [y0, y1, y2], _, [v0, v1, v2, v3, v4, v5, v6], _ =>
    have g0 := hf 0 f0 rfl
    have g1 := hf 1 f1 rfl
    have g2 := hf 2 f2 rfl
    simp [o0, o1, o2, t0, t1, t2, i64_cell, str_cell, val_cells] at g0 g1 g2
    obtain ⟨a0, e0, -, -⟩ := DataW.trod_string str_u g0
    obtain ⟨a1, e1, -, -⟩ := DataW.trod_int i64_u g1
    have e2 := open_val g2
    simp at e0 e1
    intro u hu
    rcases List.mem_cons.1 hu with rfl | hu
    · rw [e0]; rfl
    rcases List.mem_cons.1 hu with rfl | hu
    · rw [e1]; rfl
    exact e2 u hu
set_option maxRecDepth 100000 in
theorem arg_items {a : Option Addr} {len cap : Nat} {d : DataW H} {p : List MemPlace} (h : DataW.Trod enc Tryz.prog w base spare held 31 (.slice a len cap) d p) (hw : ∀ k ∈ d.weights Tryz.prog 31, k ≤ reachBytes) :
    (∃ cs, RawAt w a len cs) ∧ len * 104 ≤ 140737488355328 := by
  obtain ⟨fuel, h⟩ := h
  rcases Go.Deep.open_slice items_u h with ⟨h0, -⟩ | ⟨a', len', cap', m, n, D, Pl, h0, hb, hl, hm, hmm, hxe, hx⟩
  · simp [Value.cells] at h0
    obtain ⟨rfl, rfl, rfl⟩ := h0
    exact ⟨⟨[], rfl, fun j e he => by simp at he, fun u hu => by cases hu⟩, by omega⟩
  · simp [Value.cells] at h0
    obtain ⟨rfl, rfl, rfl⟩ := h0
    cases hxe
    have hlm : len ≤ m := by rw [hmm]; split <;> omega
    have hsz : len * 104 ≤ 140737488351232 := by
      have := hw ((len + (m - len)) * 104) (by simp only [DataW.weights, items_u, item_bytes, List.length_map, List.length_range]; exact List.mem_cons_self ..)
      simp only [reachBytes] at this
      omega
    have each : ∀ i, i < len → ∃ cs : List Value, (cs.length = 7 ∧ ∀ u ∈ cs, u.oneCell' = true) ∧ ∀ q, q < 7 → w.cell? ((a'.add (i * 7)).add q) = cs[q]? := fun i hi => by
      obtain ⟨cs, h1, h2⟩ := hx i (by omega)
      rw [item_cellsN] at h1
      obtain ⟨_, _, hcell⟩ := World.cells?_some h1
      exact ⟨cs, open_item h2, hcell⟩
    obtain ⟨f, hf⟩ : ∃ f : Nat → List Value, ∀ i, i < len → ((f i).length = 7 ∧ ∀ u ∈ f i, u.oneCell' = true) ∧ ∀ q, q < 7 → w.cell? ((a'.add (i * 7)).add q) = (f i)[q]? :=
      ⟨fun i => if h : i < len then (each i h).choose else [], fun i hi => by simp only [dif_pos hi]; exact (each i hi).choose_spec⟩
    have hat : ∀ j, j < len * 7 → ∃ u, (f (j / 7))[j % 7]? = some u ∧ u.oneCell' = true ∧ w.cell? ((a'.add (j / 7 * 7)).add (j % 7)) = some u := fun j hj => by
      obtain ⟨⟨h1, h2⟩, h3⟩ := hf (j / 7) (by omega)
      have h4 : j % 7 < (f (j / 7)).length := by omega
      exact ⟨_, List.getElem?_eq_getElem h4, h2 _ (List.getElem_mem h4), (h3 _ (by omega)).trans (List.getElem?_eq_getElem h4)⟩
    have hcs : ∀ (j : Nat) u, ((List.range (len * 7)).map (fun j => ((f (j / 7))[j % 7]?).getD undef))[j]? = some u → j < len * 7 ∧ u.oneCell' = true ∧ w.cell? ((a'.add (j / 7 * 7)).add (j % 7)) = some u := fun j u hj => by
      have h1 := (List.getElem?_eq_some_iff.1 hj).1
      have hlt : j < len * 7 := by simpa using h1
      rw [List.getElem?_map, List.getElem?_range hlt] at hj
      obtain ⟨u', h2, h3, h4⟩ := hat j hlt
      simp [h2] at hj
      subst hj
      exact ⟨hlt, h3, h4⟩
    refine ⟨⟨(List.range (len * 7)).map (fun j => ((f (j / 7))[j % 7]?).getD undef), by simp, fun j u hj => ?_, fun u hu => ?_⟩, by omega⟩
    · obtain ⟨hlt, -, hc⟩ := hcs j u hj
      obtain ⟨xb, xo, spot⟩ := a'
      obtain ⟨u0, -, -, h00⟩ := hat 0 (by omega)
      have hspot : spot = none := by simpa [Addr.add] using World.cell?_spot (v := u0) (by simpa [Addr.add] using h00)
      subst hspot
      rw [Ap.add_plain, Ap.add_plain] at hc
      exact ⟨xb, xo, rfl, by rw [show xo + j = xo + j / 7 * 7 + j % 7 by omega]; exact hc⟩
    · obtain ⟨j, hj⟩ := List.mem_iff_getElem?.1 hu
      exact (hcs j u hj).2.1
end
theorem need_cells : Tryz.prog.cellsOf 30 = 7 := by kernel_rfl
theorem need_fields : ∃ f0 f1 f2 : Field, Tryz.prog.underlying 30 = some (.struct #[f0, f1, f2]) ∧ (f0.offset = 0 ∧ f1.offset = 1 ∧ f2.offset = 2) ∧ f0.type = 9 ∧ f1.type = 3 ∧ f2.type = 28 := ⟨_, _, _, Tryz.underlying30, ⟨rfl, rfl, rfl⟩, rfl, rfl, rfl⟩
section
variable {H : Type} {enc : TypeId × Value → H} {w : World} {base : Nat} {spare : Nat → Bool} {held : Bool}
theorem open_sl {t e : TypeId} (hu : Tryz.prog.underlying t = some (.slice e)) {fuel : Nat} {c : Value} {x : DataW H × List MemPlace} (h : DataW.trod enc Tryz.prog w base spare held fuel t [c] = some x) : ∃ a l n, c = .slice a l n := by
  rcases Go.Deep.open_slice hu h with ⟨h0, -⟩ | ⟨a', len, cap, m, n, D, Pl, h0, -⟩
  · exact ⟨none, 0, 0, by simpa using h0⟩
  · exact ⟨some a', len, cap, by simpa using h0⟩
set_option maxRecDepth 100000 in
theorem open_need {fuel : Nat} {cs : List Value} {x : DataW H × List MemPlace} (h : DataW.trod enc Tryz.prog w base spare held fuel 30 cs = some x) : ∃ (p : ByteArray) (op k x : Int) (s : ByteArray) (an : Option Addr) (ln cn : Nat) (ai : Option Addr) (li ci : Nat), cs = [.string p, .int .i64 op, .int .i64 k, .int .i64 x, .string s, .slice an ln cn, .slice ai li ci] := by
  obtain ⟨f0, f1, f2, hu, ⟨o0, o1, o2⟩, t0, t1, t2⟩ := need_fields
  obtain ⟨xs, m, -, -, hl, hxl, hf⟩ := DataW.trod_struct hu h
  rw [need_cells] at hl
  match xs, hxl, cs, hl with
  | [y0, y1, y2], _, [v0, v1, v2, v3, v4, v5, v6], _ =>
    have g0 := hf 0 f0 rfl
    have g1 := hf 1 f1 rfl
    have g2 := hf 2 f2 rfl
    simp [o0, o1, o2, t0, t1, t2, int_cell, str_cell, val_cells] at g0 g1 g2
    obtain ⟨a0, e0, -, -⟩ := DataW.trod_string str_u g0
    obtain ⟨a1, e1, -, -⟩ := DataW.trod_int int_u g1
    simp at e0 e1
    obtain ⟨h0, h1, h2, h3, h4, hv, ⟨p0, p1, p2, p3, p4⟩, u0, u1, u2, u3, u4⟩ := val_fields
    obtain ⟨xs', m', -, -, hl', hxl', hf'⟩ := DataW.trod_struct hv g2
    match xs', hxl' with
    | [z0, z1, z2, z3, z4], _ =>
      have q0 := hf' 0 h0 rfl
      have q1 := hf' 1 h1 rfl
      have q2 := hf' 2 h2 rfl
      have q3 := hf' 3 h3 rfl
      have q4 := hf' 4 h4 rfl
      simp [p0, p1, p2, p3, p4, u0, u1, u2, u3, u4, int_cell, i64_cell, str_cell, strs_cell, vals_cell] at q0 q1 q2 q3 q4
      obtain ⟨b0, d0, -, -⟩ := DataW.trod_int int_u q0
      obtain ⟨b1, d1, -, -⟩ := DataW.trod_int i64_u q1
      obtain ⟨b2, d2, -, -⟩ := DataW.trod_string str_u q2
      obtain ⟨an, ln, cn, d3⟩ := open_sl strs_u q3
      obtain ⟨ai, li, ci, d4⟩ := open_sl vals_u q4
      simp at d0 d1 d2
      exact ⟨a0, a1, b0, b1, b2, an, ln, cn, ai, li, ci, by rw [e0, e1, d0, d1, d2, d3, d4]⟩
end
set_option maxRecDepth 100000 in
set_option maxHeartbeats 4000000 in
theorem nil_true (p : ByteArray) (op k x : Int) (s : ByteArray) (an : Option Addr) (ln cn : Nat) (ai : Option Addr) (li ci : Nat) (a : Option Addr) (n c : Nat) (cs : List Value) (w : World) (hR : RawAt w a n cs) (hn : n * 104 ≤ 140737488355328) :
    Calls Tryz.prog 4 #[.agg #[.string p, .int .i64 op, .int .i64 k, .int .i64 x, .string s, .slice an ln cn, .slice ai li ci], .slice a n c] w fun e w' => e = .returned (.bool true) ∧ Below w.heap.size w w' := by
  have hB0 := (Below.refl _ w).alloc (Nat.le_refl _) (.cells #[.string p, .int .i64 op, .int .i64 k, .int .i64 x, .string s, .slice an ln cn, .slice ai li ci] 30)
  have hnew := heap_alloc_new w (.cells #[.string p, .int .i64 op, .int .i64 k, .int .i64 x, .string s, .slice an ln cn, .slice ai li ci] 30)
  obtain ⟨W1, hW1⟩ : ∃ W1, Hid (w.alloc (.cells #[.string p, .int .i64 op, .int .i64 k, .int .i64 x, .string s, .slice an ln cn, .slice ai li ci] 30) = W1) := ⟨_, rfl⟩
  rw [hW1.out] at hB0 hnew
  have how := hid_of (own_any a n c cs W1 ⟨hR.len, fun j u hj => by obtain ⟨b, o, e, hc⟩ := hR.at' j u hj; exact ⟨b, o, e, stay hB0 hc⟩, hR.one⟩ hn)
  have hnum := fun W => hid_of (num17 0 W)
  replace hB0 := hid_of hB0
  clear hR hn
  go_enter Tryz.func4, Tryz.ntmps4
  go_wp2_with (rw [hW1.out])
  refine how.out.mono ?_
  rintro e X2 ⟨hB2, g, c2, rfl, -, -⟩
  replace hnew := (hB2.block _ (Array.getElem?_eq_some_iff.1 hnew).1).trans hnew
  replace hB0 := hid_of (hB0.out.trans (hB2.mono hB0.out.size))
  replace hnew := hid_of hnew
  clear hB2 how hW1
  go_wp2_with fail
  refine (change_nil _ _ _).mono ?_
  rintro e Z ⟨rfl, hZ⟩
  obtain rfl : X2 = Z := hZ.symm
  clear hZ
  go_wp2_with fail
  refine (hnum _).out.mono ?_
  rintro e Z ⟨rfl, hZ⟩
  obtain rfl : X2 = Z := hZ.symm
  clear hZ
  go_wp2_with fail
  refine (spec_nil _).mono ?_
  rintro e X3 ⟨rfl, hX3⟩
  replace hnew := hid_of ((hX3.block _ (Array.getElem?_eq_some_iff.1 hnew.out).1).trans hnew.out)
  replace hB0 := hid_of (hB0.out.trans (hX3.mono hB0.out.size))
  clear hX3
  go_wp2_with fail
  refine (size_nil _).mono ?_
  rintro e Z ⟨rfl, hZ⟩
  obtain rfl : X3 = Z := hZ.symm
  clear hZ
  go_wp2_with fail
  refine (entries_nil _).mono ?_
  rintro e X4 ⟨rfl, hX4⟩
  have hnew4 := (hX4.block _ (Array.getElem?_eq_some_iff.1 hnew.out).1).trans hnew.out
  replace hB0 := hid_of (hB0.out.trans (hX4.mono hB0.out.size))
  obtain ⟨v0, v1, v2, v3, v4, v5, v6⟩ := cells7 hnew4
  replace hnew4 := hid_of hnew4
  clear hX4 hnew
  go_wp2_with fail
  refine (ids_nil op k x s an ln cn ai li ci _).mono ?_
  rintro e X5 ⟨rfl, hX5⟩
  have hnew5 := (hX5.block _ (Array.getElem?_eq_some_iff.1 hnew4.out).1).trans hnew4.out
  replace hB0 := hid_of (hB0.out.trans (hX5.mono hB0.out.size))
  clear v0 v1 v2 v3 v4 v5 v6 hX5 hnew4
  obtain ⟨v0, v1, v2, v3, v4, v5, v6⟩ := cells7 hnew5
  clear hnew5
  go_wp2_with fail
  refine (serves_nil p op k x s an ln cn ai li ci _).mono ?_
  rintro e X6 ⟨rfl, hX6⟩
  replace hB0 := hid_of (hB0.out.trans (hX6.mono hB0.out.size))
  clear v0 v1 v2 v3 v4 v5 v6 hX6
  go_wp2_with fail
  refine (live_any _).mono ?_
  rintro e X7 ⟨rfl, hX7⟩
  replace hB0 := hid_of (hB0.out.trans (hX7.mono hB0.out.size))
  clear hX7
  go_wp2_with fail
  go_ret
  exact ⟨rfl, hB0.out⟩
set_option maxRecDepth 100000 in
theorem nil_lifted (os : Os) (started : os.Started) (H : Type) (enc : TypeId × Value → H) :
    ReturnsInHanded {} Tryz.checked os 4 .any (fun w args => (Rows.indexNilSpec.pre enc Tryz.prog Tryz.f4 [] false w args ∧ laidMetH Tryz.prog Rows.indexNilRow.laid w) ∧ sizedMet enc Tryz.prog Tryz.f4 (OpenSpec.ofChange Rows.indexNilSpec) false w args)
      (Rows.indexNilSpec.post enc Tryz.prog Tryz.f4 false true false false) := by
  refine returnsInHanded_of_change_and (C := Tryz.checked) (X := fun w _ => laidMetH Tryz.prog Rows.indexNilRow.laid w) (fun _ _ _ hh h => h.of_heap hh) own_knob started (by kernel_rfl) Tryz.func4
    (ChangeSpec.witness_shaped (enc := enc) (C := Tryz.checked) (os := os) (X := fun w _ => laidMetH Tryz.prog Rows.indexNilRow.laid w) false (World.laidAll Tryz.prog os Rows.indexNilRow.laid) #[.agg #[.string ⟨#[]⟩, .int .i64 0, .int .i64 0, .int .i64 0, .string ⟨#[]⟩, .slice none 0 0, .slice none 0 0], .slice none 0 0] 8 (World.laidAll_os _ _ _)
      (World.shaped_of_ZipB (by kernel_rfl) (by kernel_rfl)) (by kernel_rfl) (by kernel_rfl) (by kernel_rfl)
      (by rw [MakeChecks.laidMetH_plain _ _ _ (by kernel_rfl)]; exact laidMet_laidAll _ (by kernel_rfl) (by kernel_rfl))) ?_
  intro W base args ds gs before hval0 hW _ hsz0 _ _
  have hval : ∀ (j : Nat) t v, Tryz.f4.params[j]? = some t → args[j]? = some v → Value.okWide Tryz.prog W .any base t v := hval0
  have hsz : (DataW.weightsEach Tryz.prog (Tryz.f4.params.toList ++ Rows.indexNilSpec.plain.varTypes Tryz.prog) (ds ++ gs)).all (· ≤ reachBytes) = true := hsz0
  have hW' := hW
  obtain ⟨p, q, hA0, hV, rfl, _, _⟩ := hW
  have hA : DataW.TrodAll enc Tryz.prog W 0 (fun _ => true) true Tryz.f4.params.toList args.toList ds p := hA0
  rw [Tryz.params4] at hA hval hsz
  obtain ⟨v0, v1, d0, d1, p0, p1, rfl, rfl, rfl, h0, h1⟩ := trodAll_two hA
  obtain ⟨rfl, rfl⟩ := trodVars_none hV
  clear hA0 hval0 hsz0
  obtain ⟨cs0, rfl, _⟩ := okWide_struct Tryz.underlying30 (hval 0 30 v0 rfl rfl)
  obtain ⟨a, len, cap, rfl⟩ := okWide_slice Tryz.underlying31 (hval 1 31 v1 rfl rfl)
  obtain ⟨⟨cs, hE⟩, hl1⟩ := arg_items h1 (fun k hk => of_decide_eq_true (List.all_eq_true.1 hsz _ (DataW.weights_mem_each (j := 1) rfl rfl k hk)))
  obtain ⟨pn, op, k, x, s, an, ln, cn, ai, li, ci, hcs⟩ : ∃ (p : ByteArray) (op k x : Int) (s : ByteArray) (an : Option Addr) (ln cn : Nat) (ai : Option Addr) (li ci : Nat), cs0 = #[.string p, .int .i64 op, .int .i64 k, .int .i64 x, .string s, .slice an ln cn, .slice ai li ci] := by
    obtain ⟨fuel, hf⟩ := h0
    obtain ⟨p, op, k, x, s, an, ln, cn, ai, li, ci, e⟩ := open_need hf
    have e' : cs0.toList = _ := e
    exact ⟨p, op, k, x, s, an, ln, cn, ai, li, ci, by rw [show cs0 = cs0.toList.toArray by simp, e']⟩
  subst hcs
  simp only [List.append_nil] at hW'
  have hlt0 : ∀ x ∈ p0, x.block < W.heap.size := fun x hx => by simpa using hW'.lt x (by simp [hx])
  have hlt1 : ∀ x ∈ p1, x.block < W.heap.size := fun x hx => by simpa using hW'.lt x (by simp [hx])
  refine (nil_true pn op k x s an ln cn ai li ci a len cap cs W hE hl1).mono fun e W' ⟨he, hb⟩ => ?_
  subst he
  exact ⟨_, rfl, _, _, _, [], _, [], hW', trodAll_mk1 (shut_bool Tryz.underlying4 _), trodAll_mk2 (Below.trod laid_out (by kernel_rfl) (of_decide_eq_true (by kernel_rfl)) h0 hb hlt0) (Below.trod laid_out (by kernel_rfl) (of_decide_eq_true (by kernel_rfl)) h1 hb hlt1), rfl, hb.frame _, fun h => by cases h⟩

theorem nil_holds : Rows.IndexNilSaid :=
  OpenClaim.holds_of_wide 4 Tryz.f4 rfl rfl rfl rfl rfl rfl rfl ⟨rfl, rfl, rfl, rfl, rfl⟩ rfl rfl rfl rfl rfl (by kernel_rfl) Tryz.func4 (by kernel_rfl)
    (of_decide_eq_true (by kernel_rfl)) (by unfold Func.isWrapper; first | (rw [if_pos (by decide +kernel)]; kernel_rfl) | (rw [if_neg (by decide +kernel)]; exact ⟨rfl, rfl⟩))
    (fun os started H enc _ => nil_lifted os started H enc)
end Go.Proofs.YtnlljodmkacmlaaGreatDoor
