import Derived.Test.YtdghkmgkmfnjjaaGreatDoorNB
import Derived.Test.YtdghkmgkmfnjjaaGreatDoorCP
import Derived.Deep.Slices
import Derived.ChangeArms
/-! An act that is handed in. -/
namespace Go.Proofs.YtdghkmgkmfnjjaaGreatDoor
open Go Go.ChangeShapes Go.WideShapes Go.ChangeAt Go.RowKit Ap

theorem laid_out : laidOutB Tryz.prog = true := by kernel_rfl
theorem items_u : Tryz.prog.underlying 28 = some (.slice 58) := by kernel_rfl
theorem vals_u : Tryz.prog.underlying 23 = some (.slice 25) := by kernel_rfl
theorem strs_u : Tryz.prog.underlying 22 = some (.slice 9) := by kernel_rfl
theorem item_cellsN : Tryz.prog.cellsOf 58 = 7 := by kernel_rfl
theorem val_cells : Tryz.prog.cellsOf 25 = 5 := by kernel_rfl
theorem int_cell : Tryz.prog.cellsOf 3 = 1 := by kernel_rfl
theorem i64_cell : Tryz.prog.cellsOf 2 = 1 := by kernel_rfl
theorem str_cell : Tryz.prog.cellsOf 9 = 1 := by kernel_rfl
theorem strs_cell : Tryz.prog.cellsOf 22 = 1 := by kernel_rfl
theorem vals_cell : Tryz.prog.cellsOf 23 = 1 := by kernel_rfl
theorem item_bytes : Tryz.prog.bytesOf 58 = 104 := by kernel_rfl
theorem int_u : Tryz.prog.underlying 3 = some (.int .i64) := by kernel_rfl
theorem i64_u : Tryz.prog.underlying 2 = some (.int .i64) := by kernel_rfl
theorem str_u : Tryz.prog.underlying 9 = some .string := by kernel_rfl
theorem item_fields : ∃ f0 f1 f2 : Field, Tryz.prog.underlying 58 = some (.struct #[f0, f1, f2]) ∧ (f0.offset = 0 ∧ f1.offset = 1 ∧ f2.offset = 2) ∧ f0.type = 9 ∧ f1.type = 2 ∧ f2.type = 25 := ⟨_, _, _, Tryz.underlying58, ⟨rfl, rfl, rfl⟩, rfl, rfl, rfl⟩
theorem val_fields : ∃ f0 f1 f2 f3 f4 : Field, Tryz.prog.underlying 25 = some (.struct #[f0, f1, f2, f3, f4]) ∧ (f0.offset = 0 ∧ f1.offset = 1 ∧ f2.offset = 2 ∧ f3.offset = 3 ∧ f4.offset = 4) ∧ f0.type = 3 ∧ f1.type = 2 ∧ f2.type = 9 ∧ f3.type = 22 ∧ f4.type = 23 := ⟨_, _, _, _, _, Tryz.underlying25, ⟨rfl, rfl, rfl, rfl, rfl⟩, rfl, rfl, rfl, rfl, rfl⟩
section
variable {H : Type} {enc : TypeId × Value → H} {w : World} {base : Nat} {spare : Nat → Bool} {held : Bool}
theorem open_one {t e : TypeId} (hu : Tryz.prog.underlying t = some (.slice e)) {fuel : Nat} {cs : List Value} {x : DataW H × List MemPlace} (h : DataW.trod enc Tryz.prog w base spare held fuel t cs = some x) : ∀ u ∈ cs, u.oneCell' = true := by
  rcases Go.Deep.open_slice hu h with ⟨h0, -⟩ | ⟨a', len, cap, m, n, D, Pl, h0, -⟩
  · rw [h0]; simp [Value.oneCell']
  · rw [h0]; simp [Value.oneCell']
set_option maxRecDepth 100000 in
theorem open_val {fuel : Nat} {cs : List Value} {x : DataW H × List MemPlace} (h : DataW.trod enc Tryz.prog w base spare held fuel 25 cs = some x) : ∀ u ∈ cs, u.oneCell' = true := by
  obtain ⟨f0, f1, f2, f3, f4, hu, ⟨o0, o1, o2, o3, o4⟩, t0, t1, t2, t3, t4⟩ := val_fields
  obtain ⟨xs, m, -, -, hl, hxl, hf⟩ := DataW.trod_struct hu h
  rw [val_cells] at hl
  match xs, hxl, cs, hl with
  | [y0, y1, y2, y3, y4], _, [v0, v1, v2, v3, v4], _ =>
    have g0 := hf 0 f0 rfl
    have g1 := hf 1 f1 rfl
    have g2 := hf 2 f2 rfl
    have g3 := hf 3 f3 rfl
    have g4 := hf 4 f4 rfl
    simp [o0, o1, o2, o3, o4, t0, t1, t2, t3, t4, int_cell, i64_cell, str_cell, strs_cell, vals_cell] at g0 g1 g2 g3 g4
    obtain ⟨a0, e0, -, -⟩ := DataW.trod_int int_u g0
    obtain ⟨a1, e1, -, -⟩ := DataW.trod_int i64_u g1
    obtain ⟨a2, e2, -, -⟩ := DataW.trod_string str_u g2
    have e3 := open_one strs_u g3 v3 (by simp)
    have e4 := open_one vals_u g4 v4 (by simp)
    simp at e0 e1 e2
    intro u hu
    simp at hu
    rcases hu with rfl | rfl | rfl | rfl | rfl
    · rw [e0]; rfl
    · rw [e1]; rfl
    · rw [e2]; rfl
    · exact e3
    · exact e4
set_option maxRecDepth 100000 in
theorem open_item {fuel : Nat} {cs : List Value} {x : DataW H × List MemPlace} (h : DataW.trod enc Tryz.prog w base spare held fuel 58 cs = some x) : cs.length = 7 ∧ ∀ u ∈ cs, u.oneCell' = true := by
  obtain ⟨f0, f1, f2, hu, ⟨o0, o1, o2⟩, t0, t1, t2⟩ := item_fields
  obtain ⟨xs, m, -, -, hl, hxl, hf⟩ := DataW.trod_struct hu h
  rw [item_cellsN] at hl
  refine ⟨hl, ?_⟩
  match xs, hxl, cs, hl with
  | [y0, y1, y2], _, [v0, v1, v2, v3, v4, v5, v6], _ =>
    have g0 := hf 0 f0 rfl
    have g1 := hf 1 f1 rfl
    have g2 := hf 2 f2 rfl
    simp [o0, o1, o2, t0, t1, t2, i64_cell, str_cell, val_cells] at g0 g1 g2
    obtain ⟨a0, e0, -, -⟩ := DataW.trod_string str_u g0
    obtain ⟨a1, e1, -, -⟩ := DataW.trod_int i64_u g1
    have e2 := open_val g2
    simp at e0 e1
    intro u hu
    rcases List.mem_cons.1 hu with rfl | hu
    · rw [e0]; rfl
    rcases List.mem_cons.1 hu with rfl | hu
    · rw [e1]; rfl
    exact e2 u hu
set_option maxRecDepth 100000 in
theorem arg_items {a : Option Addr} {len cap : Nat} {d : DataW H} {p : List MemPlace} (h : DataW.Trod enc Tryz.prog w base spare held 28 (.slice a len cap) d p) (hw : ∀ k ∈ d.weights Tryz.prog 28, k ≤ reachBytes) :
    (∃ cs, RawAt w a len cs) ∧ len * 104 ≤ 140737488355328 := by
  obtain ⟨fuel, h⟩ := h
  rcases Go.Deep.open_slice items_u h with ⟨h0, -⟩ | ⟨a', len', cap', m, n, D, Pl, h0, hb, hl, hm, hmm, hxe, hx⟩
  · simp [Value.cells] at h0
    obtain ⟨rfl, rfl, rfl⟩ := h0
    exact ⟨⟨[], rfl, fun j e he => by simp at he, fun u hu => by cases hu⟩, by omega⟩
  · simp [Value.cells] at h0
    obtain ⟨rfl, rfl, rfl⟩ := h0
    cases hxe
    have hlm : len ≤ m := by rw [hmm]; split <;> omega
    have hsz : len * 104 ≤ 140737488351232 := by
      have := hw ((len + (m - len)) * 104) (by simp only [DataW.weights, items_u, item_bytes, List.length_map, List.length_range]; exact List.mem_cons_self ..)
      simp only [reachBytes] at this
      omega
    have each : ∀ i, i < len → ∃ cs : List Value, (cs.length = 7 ∧ ∀ u ∈ cs, u.oneCell' = true) ∧ ∀ q, q < 7 → w.cell? ((a'.add (i * 7)).add q) = cs[q]? := fun i hi => by
      obtain ⟨cs, h1, h2⟩ := hx i (by omega)
      rw [item_cellsN] at h1
      obtain ⟨_, _, hcell⟩ := World.cells?_some h1
      exact ⟨cs, open_item h2, hcell⟩
    obtain ⟨f, hf⟩ : ∃ f : Nat → List Value, ∀ i, i < len → ((f i).length = 7 ∧ ∀ u ∈ f i, u.oneCell' = true) ∧ ∀ q, q < 7 → w.cell? ((a'.add (i * 7)).add q) = (f i)[q]? :=
      ⟨fun i => if h : i < len then (each i h).choose else [], fun i hi => by simp only [dif_pos hi]; exact (each i hi).choose_spec⟩
    have hat : ∀ j, j < len * 7 → ∃ u, (f (j / 7))[j % 7]? = some u ∧ u.oneCell' = true ∧ w.cell? ((a'.add (j / 7 * 7)).add (j % 7)) = some u := fun j hj => by
      obtain ⟨⟨h1, h2⟩, h3⟩ := hf (j / 7) (by omega)
      have h4 : j % 7 < (f (j / 7)).length := by omega
      exact ⟨_, List.getElem?_eq_getElem h4, h2 _ (List.getElem_mem h4), (h3 _ (by omega)).trans (List.getElem?_eq_getElem h4)⟩
    have hcs : ∀ (j : Nat) u, ((List.range (len * 7)).map (fun j => ((f (j / 7))[j % 7]?).getD undef))[j]? = some u → j < len * 7 ∧ u.oneCell' = true ∧ w.cell? ((a'.add (j / 7 * 7)).add (j % 7)) = some u := fun j u hj => by
      have h1 := (List.getElem?_eq_some_iff.1 hj).1
      have hlt : j < len * 7 := by simpa using h1
      rw [List.getElem?_map, List.getElem?_range hlt] at hj
      obtain ⟨u', h2, h3, h4⟩ := hat j hlt
      simp [h2] at hj
      subst hj
      exact ⟨hlt, h3, h4⟩
    refine ⟨⟨(List.range (len * 7)).map (fun j => ((f (j / 7))[j % 7]?).getD undef), by simp, fun j u hj => ?_, fun u hu => ?_⟩, by omega⟩
    · obtain ⟨hlt, -, hc⟩ := hcs j u hj
      obtain ⟨xb, xo, spot⟩ := a'
      obtain ⟨u0, -, -, h00⟩ := hat 0 (by omega)
      have hspot : spot = none := by simpa [Addr.add] using World.cell?_spot (v := u0) (by simpa [Addr.add] using h00)
      subst hspot
      rw [Ap.add_plain, Ap.add_plain] at hc
      exact ⟨xb, xo, rfl, by rw [show xo + j = xo + j / 7 * 7 + j % 7 by omega]; exact hc⟩
    · obtain ⟨j, hj⟩ := List.mem_iff_getElem?.1 hu
      exact (hcs j u hj).2.1
end
theorem bool_u : Tryz.prog.underlying 4 = some .bool := by kernel_rfl
theorem bool_cell : Tryz.prog.cellsOf 4 = 1 := by kernel_rfl
theorem spec_cells : Tryz.prog.cellsOf 27 = 3 := by kernel_rfl
theorem ref_cells : Tryz.prog.cellsOf 30 = 2 := by kernel_rfl
theorem act_cells : Tryz.prog.cellsOf 32 = 15 := by kernel_rfl
theorem items_cell : Tryz.prog.cellsOf 28 = 1 := by kernel_rfl
theorem spec_fields : ∃ f0 f1 f2 : Field, Tryz.prog.underlying 27 = some (.struct #[f0, f1, f2]) ∧ (f0.offset = 0 ∧ f1.offset = 1 ∧ f2.offset = 2) ∧ f0.type = 9 ∧ f1.type = 9 ∧ f2.type = 4 := ⟨_, _, _, Tryz.underlying27, ⟨rfl, rfl, rfl⟩, rfl, rfl, rfl⟩
theorem ref_fields : ∃ f0 f1 : Field, Tryz.prog.underlying 30 = some (.struct #[f0, f1]) ∧ (f0.offset = 0 ∧ f1.offset = 1) ∧ f0.type = 3 ∧ f1.type = 3 := ⟨_, _, Tryz.underlying30, ⟨rfl, rfl⟩, rfl, rfl⟩
theorem act_fields : ∃ f0 f1 f2 f3 f4 f5 f6 f7 : Field, Tryz.prog.underlying 32 = some (.struct #[f0, f1, f2, f3, f4, f5, f6, f7]) ∧ (f0.offset = 0 ∧ f1.offset = 1 ∧ f2.offset = 2 ∧ f3.offset = 3 ∧ f4.offset = 8 ∧ f5.offset = 11 ∧ f6.offset = 12 ∧ f7.offset = 13) ∧ f0.type = 3 ∧ f1.type = 9 ∧ f2.type = 2 ∧ f3.type = 25 ∧ f4.type = 27 ∧ f5.type = 28 ∧ f6.type = 28 ∧ f7.type = 30 := ⟨_, _, _, _, _, _, _, _, Tryz.underlying32, ⟨rfl, rfl, rfl, rfl, rfl, rfl, rfl, rfl⟩, rfl, rfl, rfl, rfl, rfl, rfl, rfl, rfl⟩
section
variable {H : Type} {enc : TypeId × Value → H} {w : World} {base : Nat} {spare : Nat → Bool} {held : Bool}
theorem open_sl {t e : TypeId} (hu : Tryz.prog.underlying t = some (.slice e)) {fuel : Nat} {c : Value} {x : DataW H × List MemPlace} (h : DataW.trod enc Tryz.prog w base spare held fuel t [c] = some x) : ∃ a l n, c = .slice a l n := by
  rcases Go.Deep.open_slice hu h with ⟨h0, -⟩ | ⟨a', len, cap, m, n, D, Pl, h0, -⟩
  · exact ⟨none, 0, 0, by simpa using h0⟩
  · exact ⟨some a', len, cap, by simpa using h0⟩
set_option maxRecDepth 100000 in
theorem open_val5 {fuel : Nat} {cs : List Value} {x : DataW H × List MemPlace} (h : DataW.trod enc Tryz.prog w base spare held fuel 25 cs = some x) : ∃ (k x : Int) (s : ByteArray) (an : Option Addr) (ln cn : Nat) (ai : Option Addr) (li ci : Nat), cs = [.int .i64 k, .int .i64 x, .string s, .slice an ln cn, .slice ai li ci] := by
  obtain ⟨h0, h1, h2, h3, h4, hv, ⟨p0, p1, p2, p3, p4⟩, u0, u1, u2, u3, u4⟩ := val_fields
  obtain ⟨xs', m', -, -, hl', hxl', hf'⟩ := DataW.trod_struct hv h
  rw [val_cells] at hl'
  match xs', hxl', cs, hl' with
  | [z0, z1, z2, z3, z4], _, [v0, v1, v2, v3, v4], _ =>
    have q0 := hf' 0 h0 rfl
    have q1 := hf' 1 h1 rfl
    have q2 := hf' 2 h2 rfl
    have q3 := hf' 3 h3 rfl
    have q4 := hf' 4 h4 rfl
    simp [p0, p1, p2, p3, p4, u0, u1, u2, u3, u4, int_cell, i64_cell, str_cell, strs_cell, vals_cell] at q0 q1 q2 q3 q4
    obtain ⟨b0, d0, -, -⟩ := DataW.trod_int int_u q0
    obtain ⟨b1, d1, -, -⟩ := DataW.trod_int i64_u q1
    obtain ⟨b2, d2, -, -⟩ := DataW.trod_string str_u q2
    obtain ⟨an, ln, cn, d3⟩ := open_sl strs_u q3
    obtain ⟨ai, li, ci, d4⟩ := open_sl vals_u q4
    simp at d0 d1 d2
    exact ⟨b0, b1, b2, an, ln, cn, ai, li, ci, by rw [d0, d1, d2, d3, d4]⟩
set_option maxRecDepth 100000 in
theorem open_spec {fuel : Nat} {cs : List Value} {x : DataW H × List MemPlace} (h : DataW.trod enc Tryz.prog w base spare held fuel 27 cs = some x) : ∃ (p q : ByteArray) (u : Bool), cs = [.string p, .string q, .bool u] := by
  obtain ⟨f0, f1, f2, hu, ⟨o0, o1, o2⟩, t0, t1, t2⟩ := spec_fields
  obtain ⟨xs, m, -, -, hl, hxl, hf⟩ := DataW.trod_struct hu h
  rw [spec_cells] at hl
  match xs, hxl, cs, hl with
  | [y0, y1, y2], _, [v0, v1, v2], _ =>
    have g0 := hf 0 f0 rfl
    have g1 := hf 1 f1 rfl
    have g2 := hf 2 f2 rfl
    simp [o0, o1, o2, t0, t1, t2, bool_cell, str_cell] at g0 g1 g2
    obtain ⟨a0, e0, -, -⟩ := DataW.trod_string str_u g0
    obtain ⟨a1, e1, -, -⟩ := DataW.trod_string str_u g1
    obtain ⟨a2, e2, -⟩ := DataW.trod_bool bool_u g2
    simp at e0 e1 e2
    exact ⟨a0, a1, a2, by rw [e0, e1, e2]⟩
set_option maxRecDepth 100000 in
theorem open_ref {fuel : Nat} {cs : List Value} {x : DataW H × List MemPlace} (h : DataW.trod enc Tryz.prog w base spare held fuel 30 cs = some x) : ∃ (p q : Int), cs = [.int .i64 p, .int .i64 q] := by
  obtain ⟨f0, f1, hu, ⟨o0, o1⟩, t0, t1⟩ := ref_fields
  obtain ⟨xs, m, -, -, hl, hxl, hf⟩ := DataW.trod_struct hu h
  rw [ref_cells] at hl
  match xs, hxl, cs, hl with
  | [y0, y1], _, [v0, v1], _ =>
    have g0 := hf 0 f0 rfl
    have g1 := hf 1 f1 rfl
    simp [o0, o1, t0, t1, int_cell] at g0 g1
    obtain ⟨a0, e0, -, -⟩ := DataW.trod_int int_u g0
    obtain ⟨a1, e1, -, -⟩ := DataW.trod_int int_u g1
    simp at e0 e1
    exact ⟨a0, a1, by rw [e0, e1]⟩
set_option maxRecDepth 100000 in
set_option maxHeartbeats 4000000 in
theorem open_act {fuel : Nat} {cs : List Value} {x : DataW H × List MemPlace} (h : DataW.trod enc Tryz.prog w base spare held fuel 32 cs = some x) (hw : ∀ k ∈ x.1.weights Tryz.prog 32, k ≤ reachBytes) :
    ∃ (k : Int) (nm : ByteArray) (ms sk sx : Int) (ss : ByteArray) (sa : Option Addr) (sl sc : Nat) (si : Option Addr) (sil sic : Nat) (pn pp : ByteArray) (pu : Bool) (aw : Option Addr) (nw cw : Nat) (an : Option Addr) (nn cn : Nat) (r1 r2 : Int) (csw csn : List Value), cs = [.int .i64 k, .string nm, .int .i64 ms, .int .i64 sk, .int .i64 sx, .string ss, .slice sa sl sc, .slice si sil sic, .string pn, .string pp, .bool pu, .slice aw nw cw, .slice an nn cn, .int .i64 r1, .int .i64 r2] ∧ RawAt w aw nw csw ∧ nw * 104 ≤ 140737488355328 ∧ RawAt w an nn csn ∧ nn * 104 ≤ 140737488355328 := by
  obtain ⟨f0, f1, f2, f3, f4, f5, f6, f7, hu, ⟨o0, o1, o2, o3, o4, o5, o6, o7⟩, t0, t1, t2, t3, t4, t5, t6, t7⟩ := act_fields
  obtain ⟨xs, m, -, rfl, hl, hxl, hf⟩ := DataW.trod_struct hu h
  rw [act_cells] at hl
  match xs, hxl, cs, hl with
  | [y0, y1, y2, y3, y4, y5, y6, y7], _, [v0, v1, v2, v3, v4, v5, v6, v7, v8, v9, v10, v11, v12, v13, v14], _ =>
    have g0 := hf 0 f0 rfl
    have g1 := hf 1 f1 rfl
    have g2 := hf 2 f2 rfl
    have g3 := hf 3 f3 rfl
    have g4 := hf 4 f4 rfl
    have g5 := hf 5 f5 rfl
    have g6 := hf 6 f6 rfl
    have g7 := hf 7 f7 rfl
    simp [o0, o1, o2, o3, o4, o5, o6, o7, t0, t1, t2, t3, t4, t5, t6, t7, int_cell, i64_cell, str_cell, val_cells, spec_cells, items_cell, ref_cells] at g0 g1 g2 g3 g4 g5 g6 g7
    obtain ⟨a0, e0, -, -⟩ := DataW.trod_int int_u g0
    obtain ⟨a1, e1, -, -⟩ := DataW.trod_string str_u g1
    obtain ⟨a2, e2, -, -⟩ := DataW.trod_int i64_u g2
    obtain ⟨sk, sx, ss, sa, sl, sc, si, sil, sic, e3⟩ := open_val5 g3
    obtain ⟨pn, pp, pu, e4⟩ := open_spec g4
    obtain ⟨aw, nw, cw, e5⟩ := open_sl items_u g5
    obtain ⟨an, nn, cn, e6⟩ := open_sl items_u g6
    obtain ⟨r1, r2, e7⟩ := open_ref g7
    simp at e0 e1 e2 e3 e4 e7
    obtain ⟨e30, e31, e32, e33, e34⟩ := e3
    obtain ⟨e40, e41, e42⟩ := e4
    obtain ⟨e70, e71⟩ := e7
    subst e5 e6
    have hwe : ∀ k ∈ DataW.weightsEach Tryz.prog [3, 9, 2, 25, 27, 28, 28, 30] [y0.1, y1.1, y2.1, y3.1, y4.1, y5.1, y6.1, y7.1], k ≤ reachBytes := by
      intro k hk
      refine hw k ?_
      simp only [DataW.weights, hu, List.map_cons, List.map_nil, t0, t1, t2, t3, t4, t5, t6, t7]
      exact hk
    obtain ⟨⟨csw, hcw⟩, hbw⟩ := arg_items (d := y5.1) (p := y5.2) ⟨m, g5⟩ (fun k hk => hwe k (DataW.weights_mem_each (j := 5) rfl rfl k hk))
    obtain ⟨⟨csn, hcn⟩, hbn⟩ := arg_items (d := y6.1) (p := y6.2) ⟨m, g6⟩ (fun k hk => hwe k (DataW.weights_mem_each (j := 6) rfl rfl k hk))
    exact ⟨a0, a1, a2, sk, sx, ss, sa, sl, sc, si, sil, sic, pn, pp, pu, aw, nw, cw, an, nn, cn, r1, r2, csw, csn, by rw [e0, e1, e2, e30, e31, e32, e33, e34, e40, e41, e42, e70, e71], hcw, hbw, hcn, hbn⟩
end
end Go.Proofs.YtdghkmgkmfnjjaaGreatDoor
