import Derived.Test.YtaipgdnbaifhdaaHU
import Derived.Test.YtaipgdnbaifhdaaHN
import Derived.Deep.Slices
import Derived.ChangeArms
/-! HeapOnce: the row. An argument of type []docketref12.Op. -/
namespace Go.Proofs.Ytaipgdnbaifhdaa
open Go Go.ChangeShapes Go.WideShapes Go.ChangeAt Go.RowKit
theorem laid_out : laidOutB Try.prog = true := by kernel_rfl
theorem ops_u : Try.prog.underlying 22 = some (.slice 37) := by kernel_rfl
theorem op_cells : Try.prog.cellsOf 37 = 5 := by kernel_rfl
theorem ref_cells : Try.prog.cellsOf 35 = 2 := by kernel_rfl
theorem int_cell : Try.prog.cellsOf 3 = 1 := by kernel_rfl
theorem i64_cell : Try.prog.cellsOf 2 = 1 := by kernel_rfl
theorem int_u : Try.prog.underlying 3 = some (.int .i64) := by kernel_rfl
theorem i64_u : Try.prog.underlying 2 = some (.int .i64) := by kernel_rfl
theorem ref_fields : ∃ f0 f1 : Field, Try.prog.underlying 35 = some (.struct #[f0, f1]) ∧ f0.offset = 0 ∧ f1.offset = 1 ∧ f0.type = 3 ∧ f1.type = 3 := ⟨_, _, Try.underlying35, rfl, rfl, rfl, rfl⟩
theorem op_fields : ∃ f0 f1 f2 f3 : Field, Try.prog.underlying 37 = some (.struct #[f0, f1, f2, f3]) ∧ f0.offset = 0 ∧ f1.offset = 1 ∧ f2.offset = 2 ∧ f3.offset = 3 ∧ f0.type = 3 ∧ f1.type = 2 ∧ f2.type = 3 ∧ f3.type = 35 := ⟨_, _, _, _, Try.underlying37, rfl, rfl, rfl, rfl, rfl, rfl, rfl, rfl⟩
theorem add_plain (b o i : Nat) : (⟨b, o, none⟩ : Addr).add i = ⟨b, o + i, none⟩ := by
  unfold Addr.add
  split <;> simp_all
section
variable {H : Type} {enc : TypeId × Value → H} {w : World} {base : Nat} {spare : Nat → Bool} {held : Bool}
set_option maxRecDepth 100000 in
theorem open_ref {fuel : Nat} {cs : List Value} {x : DataW H × List MemPlace} (h : DataW.trod enc Try.prog w base spare held fuel 35 cs = some x) : ∃ k o : Int, cs = [.int .i64 k, .int .i64 o] := by
  obtain ⟨f0, f1, hu, o0, o1, t0, t1⟩ := ref_fields
  obtain ⟨xs, m, -, -, hl, hxl, hf⟩ := DataW.trod_struct hu h
  rw [ref_cells] at hl
  match xs, hxl, cs, hl with
  | [y0, y1], _, [v0, v1], _ =>
    have g0 := hf 0 f0 rfl
    have g1 := hf 1 f1 rfl
    simp [o0, o1, t0, t1, int_cell] at g0 g1
    obtain ⟨a0, e0, -, -⟩ := DataW.trod_int int_u g0
    obtain ⟨a1, e1, -, -⟩ := DataW.trod_int int_u g1
    simp at e0 e1
    exact ⟨a0, a1, by rw [e0, e1]⟩
set_option maxRecDepth 100000 in
theorem open_op {fuel : Nat} {cs : List Value} {x : DataW H × List MemPlace} (h : DataW.trod enc Try.prog w base spare held fuel 37 cs = some x) : ∃ e : Hop, cs = [.int .i64 e.k, .int .i64 e.v, .int .i64 e.wh, .int .i64 e.num, .int .i64 e.gen] := by
  obtain ⟨f0, f1, f2, f3, hu, o0, o1, o2, o3, t0, t1, t2, t3⟩ := op_fields
  obtain ⟨xs, m, -, -, hl, hxl, hf⟩ := DataW.trod_struct hu h
  rw [op_cells] at hl
  match xs, hxl, cs, hl with
  | [y0, y1, y2, y3], _, [v0, v1, v2, v3, v4], _ =>
    have g0 := hf 0 f0 rfl
    have g1 := hf 1 f1 rfl
    have g2 := hf 2 f2 rfl
    have g3 := hf 3 f3 rfl
    simp [o0, o1, o2, o3, t0, t1, t2, t3, int_cell, i64_cell, ref_cells] at g0 g1 g2 g3
    obtain ⟨a0, e0, -, -⟩ := DataW.trod_int int_u g0
    obtain ⟨a1, e1, -, -⟩ := DataW.trod_int i64_u g1
    obtain ⟨a2, e2, -, -⟩ := DataW.trod_int int_u g2
    obtain ⟨a3, a4, e3⟩ := open_ref g3
    simp at e0 e1 e2 e3
    obtain ⟨e3, e4⟩ := e3
    exact ⟨⟨a0, a1, a2, a3, a4⟩, by rw [e0, e1, e2, e3, e4]⟩
set_option maxRecDepth 100000 in
/-- The argument, opened. -/
theorem arg_ops {a : Option Addr} {len cap : Nat} {d : DataW H} {p : List MemPlace} (h : DataW.Trod enc Try.prog w base spare held 22 (.slice a len cap) d p) :
    ∃ ops : List Hop, ops.length = len ∧ OpsAt w a ops ∧ len ≤ cap := by
  obtain ⟨fuel, h⟩ := h
  rcases Go.Deep.open_slice ops_u h with ⟨h0, -⟩ | ⟨a', len', cap', m, n, D, Pl, h0, hb, hl, hm, hmm, -, hx⟩
  · simp [Value.cells] at h0
    obtain ⟨rfl, rfl, rfl⟩ := h0
    exact ⟨[], rfl, fun j e he => by simp at he, Nat.le_refl _⟩
  · simp [Value.cells] at h0
    obtain ⟨rfl, rfl, rfl⟩ := h0
    have hlm : len ≤ m := by rw [hmm]; split <;> omega
    have each : ∀ i, i < m → ∃ e : Hop, ∀ q, q < 5 → w.cell? ((a'.add (i * 5)).add q) = [Value.int .i64 e.k, .int .i64 e.v, .int .i64 e.wh, .int .i64 e.num, .int .i64 e.gen][q]? := fun i hi => by
      obtain ⟨cs, h1, h2⟩ := hx i hi
      rw [op_cells] at h1
      obtain ⟨_, _, hcell⟩ := World.cells?_some h1
      obtain ⟨e, rfl⟩ := open_op h2
      exact ⟨e, hcell⟩
    obtain ⟨f, hf⟩ : ∃ f : Nat → Hop, ∀ i, i < m → ∀ q, q < 5 → w.cell? ((a'.add (i * 5)).add q) = [Value.int .i64 (f i).k, .int .i64 (f i).v, .int .i64 (f i).wh, .int .i64 (f i).num, .int .i64 (f i).gen][q]? :=
      ⟨fun i => if h : i < m then (each i h).choose else ⟨0, 0, 0, 0, 0⟩, fun i hi => by simp only [dif_pos hi]; exact (each i hi).choose_spec⟩
    refine ⟨(List.range len).map f, by simp, fun j e he => ?_, hl⟩
    have hj : j < len := by
      have := (List.getElem?_eq_some_iff.1 he).1
      simpa using this
    rw [List.getElem?_map, List.getElem?_range hj] at he
    cases he
    have hc := hf j (by omega)
    obtain ⟨xb, xo, spot⟩ := a'
    have h00 := hf 0 (by omega) 0 (by omega)
    have hspot : spot = none := by simpa [Addr.add] using World.cell?_spot (v := .int .i64 (f 0).k) (by simpa [Addr.add] using h00)
    subst hspot
    have hadd : ∀ q, ((⟨xb, xo, none⟩ : Addr).add (j * 5)).add q = ⟨xb, xo + j * 5 + q, none⟩ := fun q => by rw [add_plain, add_plain]
    have c0 := hc 0 (by omega)
    have c1 := hc 1 (by omega)
    have c2 := hc 2 (by omega)
    have c3 := hc 3 (by omega)
    have c4 := hc 4 (by omega)
    rw [hadd] at c0 c1 c2 c3 c4
    exact ⟨xb, xo, rfl, c0, c1, c2, c3, c4⟩
end
set_option maxRecDepth 100000 in
theorem once_lifted (os : Os) (started : os.Started) (H : Type) (enc : TypeId × Value → H) :
    ReturnsInHanded {} Try.checked os 3 .any (Rows.heapOnceSpec.pre6 enc Try.prog Try.f3 Rows.heapOnceRow.domain false) (Rows.heapOnceSpec.post enc Try.prog Try.f3 false true false false) := by
  refine returnsInHanded_of_change (C := Try.checked) own_knob started (by kernel_rfl) Try.func3
    (ChangeSpec.witness6 (enc := enc) (C := Try.checked) false ⟨#[], #[.int .i64 0, .slice none 0 0], []⟩ 8 (by kernel_rfl) (by kernel_rfl) (by kernel_rfl) (by kernel_rfl)) ?_
  intro W base args ds gs before hval0 hW hcnd _
  have hval : ∀ (j : Nat) t v, Try.f3.params[j]? = some t → args[j]? = some v → Value.okWide Try.prog W .any base t v := hval0
  have hW' := hW
  obtain ⟨p, q, hA0, hV, rfl, hfz, hnd⟩ := hW
  have hA : DataW.TrodAll enc Try.prog W 0 (fun _ => true) true Try.f3.params.toList args.toList ds p := hA0
  rw [Try.params3] at hA hval
  obtain ⟨v0, v1, d0, d1, p0, p1, rfl, rfl, rfl, h0, h1⟩ := trodAll_two hA
  obtain ⟨rfl, rfl⟩ := trodVars_none hV
  clear hA0 hval0
  obtain ⟨i0, rfl, rfl, rfl, hw0⟩ := open_int Try.underlying3 (hval 0 3 v0 rfl rfl) h0
  obtain ⟨a, len, cap, rfl⟩ := okWide_slice Try.underlying22 (hval 1 22 v1 rfl rfl)
  obtain ⟨ops, rfl, hE, hl1⟩ := arg_ops h1
  simp only [List.append_nil] at hW'
  have hlt : ∀ x ∈ p1, x.block < W.heap.size := fun x hx => by simpa using hW'.lt x (by simpa using hx)
  refine (once_true a cap ops i0 W hE hl1).mono fun e W' ⟨he, hg⟩ => ?_
  subst he
  exact ⟨_, rfl, _, _, _, [], _, [], hW', trodAll_mk1 (shut_bool Try.underlying4 _), trodAll_mk2 (shut_int Try.underlying3 hw0) (Below.trod laid_out (by kernel_rfl) (of_decide_eq_true (by kernel_rfl)) h1 hg hlt), rfl, hg.frame _, fun h => by cases h⟩
theorem once_holds : Rows.HeapOnceSaid :=
  OpenClaim.holds_of_wide 3 Try.f3 rfl rfl rfl rfl rfl rfl rfl ⟨rfl, rfl, rfl, rfl, rfl⟩ rfl rfl rfl rfl rfl (by kernel_rfl) Try.func3 (by kernel_rfl)
    (of_decide_eq_true (by kernel_rfl)) (by unfold Func.isWrapper; first | (rw [if_pos (by decide +kernel)]; kernel_rfl) | (rw [if_neg (by decide +kernel)]; exact ⟨rfl, rfl⟩))
    (fun os started H enc _ => once_lifted os started H enc)
#print axioms once_holds
end Go.Proofs.Ytaipgdnbaifhdaa
