import Derived.Test.YteojoaceecncnaaCO
import Derived.Deep.Slices
import Derived.ChangeArms
import Derived.SizedLaws
/-! CursorNil. -/
namespace Go.Proofs.Yteojoaceecncnaa
open Go Go.ChangeShapes Go.WideShapes Go.ChangeAt Go.RowKit
theorem laid_out : laidOutB Try.prog = true := by kernel_rfl
theorem items_u : Try.prog.underlying 25 = some (.slice 50) := by kernel_rfl
theorem vals_u : Try.prog.underlying 46 = some (.slice 48) := by kernel_rfl
theorem strs_u : Try.prog.underlying 45 = some (.slice 9) := by kernel_rfl
theorem item_cells : Try.prog.cellsOf 50 = 7 := by kernel_rfl
theorem val_cells : Try.prog.cellsOf 48 = 5 := by kernel_rfl
theorem int_cell : Try.prog.cellsOf 3 = 1 := by kernel_rfl
theorem i64_cell : Try.prog.cellsOf 2 = 1 := by kernel_rfl
theorem str_cell : Try.prog.cellsOf 9 = 1 := by kernel_rfl
theorem strs_cell : Try.prog.cellsOf 45 = 1 := by kernel_rfl
theorem vals_cell : Try.prog.cellsOf 46 = 1 := by kernel_rfl
theorem item_bytes : Try.prog.bytesOf 50 = 104 := by kernel_rfl
theorem int_u : Try.prog.underlying 3 = some (.int .i64) := by kernel_rfl
theorem i64_u : Try.prog.underlying 2 = some (.int .i64) := by kernel_rfl
theorem str_u : Try.prog.underlying 9 = some .string := by kernel_rfl
theorem item_fields : ∃ f0 f1 f2 : Field, Try.prog.underlying 50 = some (.struct #[f0, f1, f2]) ∧ (f0.offset = 0 ∧ f1.offset = 1 ∧ f2.offset = 2) ∧ f0.type = 9 ∧ f1.type = 2 ∧ f2.type = 48 := ⟨_, _, _, Try.underlying50, ⟨rfl, rfl, rfl⟩, rfl, rfl, rfl⟩
theorem val_fields : ∃ f0 f1 f2 f3 f4 : Field, Try.prog.underlying 48 = some (.struct #[f0, f1, f2, f3, f4]) ∧ (f0.offset = 0 ∧ f1.offset = 1 ∧ f2.offset = 2 ∧ f3.offset = 3 ∧ f4.offset = 4) ∧ f0.type = 3 ∧ f1.type = 2 ∧ f2.type = 9 ∧ f3.type = 45 ∧ f4.type = 46 := ⟨_, _, _, _, _, Try.underlying48, ⟨rfl, rfl, rfl, rfl, rfl⟩, rfl, rfl, rfl, rfl, rfl⟩
section
variable {H : Type} {enc : TypeId × Value → H} {w : World} {base : Nat} {spare : Nat → Bool} {held : Bool}
theorem open_one {t e : TypeId} (hu : Try.prog.underlying t = some (.slice e)) {fuel : Nat} {cs : List Value} {x : DataW H × List MemPlace} (h : DataW.trod enc Try.prog w base spare held fuel t cs = some x) : ∀ u ∈ cs, u.oneCell' = true := by
  rcases Go.Deep.open_slice hu h with ⟨h0, -⟩ | ⟨a', len, cap, m, n, D, Pl, h0, -⟩
  · rw [h0]; simp [Value.oneCell']
  · rw [h0]; simp [Value.oneCell']
set_option maxRecDepth 100000 in
theorem open_val {fuel : Nat} {cs : List Value} {x : DataW H × List MemPlace} (h : DataW.trod enc Try.prog w base spare held fuel 48 cs = some x) : ∀ u ∈ cs, u.oneCell' = true := by
  obtain ⟨f0, f1, f2, f3, f4, hu, ⟨o0, o1, o2, o3, o4⟩, t0, t1, t2, t3, t4⟩ := val_fields
  obtain ⟨xs, m, -, -, hl, hxl, hf⟩ := DataW.trod_struct hu h
  rw [val_cells] at hl
  match xs, hxl, cs, hl with
  | [y0, y1, y2, y3, y4], _, [v0, v1, v2, v3, v4], _ =>
    have g0 := hf 0 f0 rfl
    have g1 := hf 1 f1 rfl
    have g2 := hf 2 f2 rfl
    have g3 := hf 3 f3 rfl
    have g4 := hf 4 f4 rfl
    simp [o0, o1, o2, o3, o4, t0, t1, t2, t3, t4, int_cell, i64_cell, str_cell, strs_cell, vals_cell] at g0 g1 g2 g3 g4
    obtain ⟨a0, e0, -, -⟩ := DataW.trod_int int_u g0
    obtain ⟨a1, e1, -, -⟩ := DataW.trod_int i64_u g1
    obtain ⟨a2, e2, -, -⟩ := DataW.trod_string str_u g2
    have e3 := open_one strs_u g3 v3 (by simp)
    have e4 := open_one vals_u g4 v4 (by simp)
    simp at e0 e1 e2
    intro u hu
    simp at hu
    rcases hu with rfl | rfl | rfl | rfl | rfl
    · rw [e0]; rfl
    · rw [e1]; rfl
    · rw [e2]; rfl
    · exact e3
    · exact e4
set_option maxRecDepth 100000 in
theorem open_item {fuel : Nat} {cs : List Value} {x : DataW H × List MemPlace} (h : DataW.trod enc Try.prog w base spare held fuel 50 cs = some x) : cs.length = 7 ∧ ∀ u ∈ cs, u.oneCell' = true := by
  obtain ⟨f0, f1, f2, hu, ⟨o0, o1, o2⟩, t0, t1, t2⟩ := item_fields
  obtain ⟨xs, m, -, -, hl, hxl, hf⟩ := DataW.trod_struct hu h
  rw [item_cells] at hl
  refine ⟨hl, ?_⟩
  match xs, hxl, cs, hl with
  | [y0, y1, y2], _, [v0, v1, v2, v3, v4, v5, v6], _ =>
    have g0 := hf 0 f0 rfl
    have g1 := hf 1 f1 rfl
    have g2 := hf 2 f2 rfl
    simp [o0, o1, o2, t0, t1, t2, i64_cell, str_cell, val_cells] at g0 g1 g2
    obtain ⟨a0, e0, -, -⟩ := DataW.trod_string str_u g0
    obtain ⟨a1, e1, -, -⟩ := DataW.trod_int i64_u g1
    have e2 := open_val g2
    simp at e0 e1
    intro u hu
    rcases List.mem_cons.1 hu with rfl | hu
    · rw [e0]; rfl
    rcases List.mem_cons.1 hu with rfl | hu
    · rw [e1]; rfl
    exact e2 u hu
set_option maxRecDepth 100000 in
theorem arg_items {a : Option Addr} {len cap : Nat} {d : DataW H} {p : List MemPlace} (h : DataW.Trod enc Try.prog w base spare held 25 (.slice a len cap) d p) (hw : ∀ k ∈ d.weights Try.prog 25, k ≤ reachBytes) :
    (∃ cs, RawAt w a len cs) ∧ len * 104 ≤ 140737488355328 := by
  obtain ⟨fuel, h⟩ := h
  rcases Go.Deep.open_slice items_u h with ⟨h0, -⟩ | ⟨a', len', cap', m, n, D, Pl, h0, hb, hl, hm, hmm, hxe, hx⟩
  · simp [Value.cells] at h0
    obtain ⟨rfl, rfl, rfl⟩ := h0
    exact ⟨⟨[], rfl, fun j e he => by simp at he, fun u hu => by cases hu⟩, by omega⟩
  · simp [Value.cells] at h0
    obtain ⟨rfl, rfl, rfl⟩ := h0
    cases hxe
    have hlm : len ≤ m := by rw [hmm]; split <;> omega
    have hsz : len * 104 ≤ 140737488351232 := by
      have := hw ((len + (m - len)) * 104) (by simp only [DataW.weights, items_u, item_bytes, List.length_map, List.length_range]; exact List.mem_cons_self ..)
      simp only [reachBytes] at this
      omega
    have each : ∀ i, i < len → ∃ cs : List Value, (cs.length = 7 ∧ ∀ u ∈ cs, u.oneCell' = true) ∧ ∀ q, q < 7 → w.cell? ((a'.add (i * 7)).add q) = cs[q]? := fun i hi => by
      obtain ⟨cs, h1, h2⟩ := hx i (by omega)
      rw [item_cells] at h1
      obtain ⟨_, _, hcell⟩ := World.cells?_some h1
      exact ⟨cs, open_item h2, hcell⟩
    obtain ⟨f, hf⟩ : ∃ f : Nat → List Value, ∀ i, i < len → ((f i).length = 7 ∧ ∀ u ∈ f i, u.oneCell' = true) ∧ ∀ q, q < 7 → w.cell? ((a'.add (i * 7)).add q) = (f i)[q]? :=
      ⟨fun i => if h : i < len then (each i h).choose else [], fun i hi => by simp only [dif_pos hi]; exact (each i hi).choose_spec⟩
    have hat : ∀ j, j < len * 7 → ∃ u, (f (j / 7))[j % 7]? = some u ∧ u.oneCell' = true ∧ w.cell? ((a'.add (j / 7 * 7)).add (j % 7)) = some u := fun j hj => by
      obtain ⟨⟨h1, h2⟩, h3⟩ := hf (j / 7) (by omega)
      have h4 : j % 7 < (f (j / 7)).length := by omega
      exact ⟨_, List.getElem?_eq_getElem h4, h2 _ (List.getElem_mem h4), (h3 _ (by omega)).trans (List.getElem?_eq_getElem h4)⟩
    have hcs : ∀ (j : Nat) u, ((List.range (len * 7)).map (fun j => ((f (j / 7))[j % 7]?).getD undef))[j]? = some u → j < len * 7 ∧ u.oneCell' = true ∧ w.cell? ((a'.add (j / 7 * 7)).add (j % 7)) = some u := fun j u hj => by
      have h1 := (List.getElem?_eq_some_iff.1 hj).1
      have hlt : j < len * 7 := by simpa using h1
      rw [List.getElem?_map, List.getElem?_range hlt] at hj
      obtain ⟨u', h2, h3, h4⟩ := hat j hlt
      simp [h2] at hj
      subst hj
      exact ⟨hlt, h3, h4⟩
    refine ⟨⟨(List.range (len * 7)).map (fun j => ((f (j / 7))[j % 7]?).getD undef), by simp, fun j u hj => ?_, fun u hu => ?_⟩, by omega⟩
    · obtain ⟨hlt, -, hc⟩ := hcs j u hj
      obtain ⟨xb, xo, spot⟩ := a'
      obtain ⟨u0, -, -, h00⟩ := hat 0 (by omega)
      have hspot : spot = none := by simpa [Addr.add] using World.cell?_spot (v := u0) (by simpa [Addr.add] using h00)
      subst hspot
      rw [add_plain, add_plain] at hc
      exact ⟨xb, xo, rfl, by rw [show xo + j = xo + j / 7 * 7 + j % 7 by omega]; exact hc⟩
    · obtain ⟨j, hj⟩ := List.mem_iff_getElem?.1 hu
      exact (hcs j u hj).2.1
end
set_option maxRecDepth 100000 in
set_option maxHeartbeats 4000000 in
theorem nil_true (a : Option Addr) (n c : Nat) (cs : List Value) (w : World) (hR : RawAt w a n cs) (hn : n * 104 ≤ 140737488355328) : Calls Try.prog 4 #[.slice a n c] w fun e w' => e = .returned (.bool true) ∧ Below w.heap.size w w' := by
  by_cases hl : n ≤ 300
  · have hd : decide (300 < (n : Int)) = false := by simp; omega
    have hB0 := hid_of ((Below.refl _ w).alloc (Nat.le_refl _) (.cells #[.slice none 0 0, .int .i64 0, .int .i64 0, .slice none 0 0, .int .i64 0, .pointer none] 35))
    obtain ⟨W1, hW1⟩ : ∃ W1, Hid (w.alloc (.cells #[.slice none 0 0, .int .i64 0, .int .i64 0, .slice none 0 0, .int .i64 0, .pointer none] 35) = W1) := ⟨_, rfl⟩
    rw [hW1.out] at hB0
    have hnum := fun W => hid_of (num_any 0 W)
    have hdn := fun W => hid_of (done_nil W)
    have hln := fun W => hid_of (looked_nil W)
    have hfn := fun v W => hid_of (from_nil v W)
    replace hR := hid_of hR
    go_enter Try.func4, Try.ntmps4
    go_wp2_with (rw [hW1.out])
    refine (next_nil _ _).mono ?_
    rintro e X1 ⟨rfl, hX1⟩
    replace hB0 := hid_of (hB0.out.trans (hX1.mono hB0.out.size))
    have how := hid_of (own_any a n c cs X1 ⟨hR.out.len, fun j u hj => by obtain ⟨b, o, e, hc⟩ := hR.out.at' j u hj; exact ⟨b, o, e, stay hB0.out hc⟩, hR.out.one⟩ hn)
    clear hX1 hW1 hR hn hl
    go_wp2_with fail
    refine how.out.mono ?_
    rintro e X2 ⟨hB2, g, c2, rfl, -, -⟩
    replace hB0 := hid_of (hB0.out.trans (hB2.mono hB0.out.size))
    clear hB2 how
    go_wp2_with fail
    refine (hfn _ _).out.mono ?_
    rintro e Z ⟨rfl, hZ⟩
    obtain rfl : X2 = Z := hZ.symm
    clear hZ
    go_wp2_with fail
    refine (hnum _).out.mono ?_
    rintro e Z ⟨rfl, hZ⟩
    obtain rfl : X2 = Z := hZ.symm
    clear hZ
    go_wp2_with fail
    refine (hln _).out.mono ?_
    rintro e Z ⟨rfl, hZ⟩
    obtain rfl : X2 = Z := hZ.symm
    clear hZ
    go_wp2_with fail
    refine (hdn _).out.mono ?_
    rintro e Z ⟨rfl, hZ⟩
    obtain rfl : X2 = Z := hZ.symm
    clear hZ
    go_wp2_with fail
    refine (live_any _).mono ?_
    rintro e X3 ⟨rfl, hX3⟩
    replace hB0 := hid_of (hB0.out.trans (hX3.mono hB0.out.size))
    clear hX3
    go_wp2_with fail
    go_ret
    exact ⟨rfl, hB0.out⟩
  · have hd : decide (300 < (n : Int)) = true := by simp; omega
    clear hR hn
    go_enter Try.func4, Try.ntmps4
    go_wp2_with fail
    go_ret
    exact ⟨rfl, Below.refl _ w⟩
set_option maxRecDepth 100000 in
theorem nil_lifted (os : Os) (started : os.Started) (H : Type) (enc : TypeId × Value → H) :
    ReturnsInHanded {} Try.checked os 4 .any (Rows.cursorNilSpec.pre6 enc Try.prog Try.f4 Rows.cursorNilRow.domain false) (Rows.cursorNilSpec.post enc Try.prog Try.f4 false true false false) := by
  refine returnsInHanded_of_change_sized (C := Try.checked) own_knob started (by kernel_rfl) Try.func4
    (ChangeSpec.witness6 (enc := enc) (C := Try.checked) false ⟨#[], #[.slice none 0 0], []⟩ 8 (by kernel_rfl) (by kernel_rfl) (by kernel_rfl) (by kernel_rfl)) ?_
  intro W base args ds gs before hval0 hW hcnd hsz0 _
  have hval : ∀ (j : Nat) t v, Try.f4.params[j]? = some t → args[j]? = some v → Value.okWide Try.prog W .any base t v := hval0
  have hsz : (DataW.weightsEach Try.prog (Try.f4.params.toList ++ Rows.cursorNilSpec.plain.varTypes Try.prog) (ds ++ gs)).all (· ≤ reachBytes) = true := hsz0
  have hW' := hW
  obtain ⟨p, q, hA0, hV, rfl, hfz, hnd⟩ := hW
  have hA : DataW.TrodAll enc Try.prog W 0 (fun _ => true) true Try.f4.params.toList args.toList ds p := hA0
  rw [Try.params4] at hA hval hsz
  obtain ⟨v0, d0, rfl, rfl, h0⟩ := trodAll_one hA
  obtain ⟨rfl, rfl⟩ := trodVars_none hV
  clear hA0 hval0
  obtain ⟨a, len, cap, rfl⟩ := okWide_slice Try.underlying25 (hval 0 25 v0 rfl rfl)
  obtain ⟨⟨cs, hE⟩, hl1⟩ := arg_items h0 (fun k hk => of_decide_eq_true (List.all_eq_true.1 hsz _ (DataW.weights_mem_each (j := 0) rfl rfl k hk)))
  simp only [List.append_nil] at hW'
  have hlt : ∀ x ∈ p, x.block < W.heap.size := fun x hx => by simpa using hW'.lt x (by simpa using hx)
  refine (nil_true a len cap cs W hE hl1).mono fun e W' ⟨he, hg⟩ => ?_
  subst he
  exact ⟨_, rfl, _, _, _, [], _, [], hW', trodAll_mk1 (shut_bool Try.underlying4 _), trodAll_mk1 (Below.trod laid_out (by kernel_rfl) (of_decide_eq_true (by kernel_rfl)) h0 hg hlt), rfl, hg.frame _, fun h => by cases h⟩
theorem nil_holds : Rows.CursorNilSaid :=
  OpenClaim.holds_of_wide 4 Try.f4 rfl rfl rfl rfl rfl rfl rfl ⟨rfl, rfl, rfl, rfl, rfl⟩ rfl rfl rfl rfl rfl (by kernel_rfl) Try.func4 (by kernel_rfl)
    (of_decide_eq_true (by kernel_rfl)) (by unfold Func.isWrapper; first | (rw [if_pos (by decide +kernel)]; kernel_rfl) | (rw [if_neg (by decide +kernel)]; exact ⟨rfl, rfl⟩))
    (fun os started H enc _ => nil_lifted os started H enc)
#print axioms nil_holds
end Go.Proofs.Yteojoaceecncnaa
