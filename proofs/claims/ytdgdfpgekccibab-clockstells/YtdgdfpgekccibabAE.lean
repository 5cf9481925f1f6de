import Derived.Test.YtdgdfpgekccibabCF
import Derived.Deep.Slices
import Derived.ChangeArms
/-! An argument of type []api.Event. -/
namespace Go.Proofs.Ytdgdfpgekccibab
open Go Go.RowKit Go.ChangeShapes
theorem evs_u : Try.prog.underlying 22 = some (.slice 57) := by kernel_rfl
theorem ev_cells : Try.prog.cellsOf 57 = 4 := by kernel_rfl
theorem step_cells : Try.prog.cellsOf 55 = 3 := by kernel_rfl
theorem one_cell : Try.prog.cellsOf 3 = 1 := by kernel_rfl
theorem i64_u : Try.prog.underlying 3 = some (.int .i64) := by kernel_rfl
theorem ev_fields : ∃ f0 f1 : Field, Try.prog.underlying 57 = some (.struct #[f0, f1]) ∧ f0.offset = 0 ∧ f1.offset = 1 ∧ f0.type = 3 ∧ f1.type = 55 := ⟨_, _, Try.underlying57, rfl, rfl, rfl, rfl⟩
theorem step_fields : ∃ f0 f1 f2 : Field, Try.prog.underlying 55 = some (.struct #[f0, f1, f2]) ∧ f0.offset = 0 ∧ f1.offset = 1 ∧ f2.offset = 2 ∧ f0.type = 3 ∧ f1.type = 3 ∧ f2.type = 3 := ⟨_, _, _, Try.underlying55, rfl, rfl, rfl, rfl, rfl, rfl⟩
theorem add_plain (b o i : Nat) : (⟨b, o, none⟩ : Addr).add i = ⟨b, o + i, none⟩ := by
  unfold Addr.add
  split <;> simp_all
section
variable {H : Type} {enc : TypeId × Value → H} {w : World} {base : Nat} {spare : Nat → Bool} {held : Bool}
set_option maxRecDepth 100000 in
theorem open_step {fuel : Nat} {cs : List Value} {x : DataW H × List MemPlace} (h : DataW.trod enc Try.prog w base spare held fuel 55 cs = some x) : ∃ k o n : Int, cs = [.int .i64 k, .int .i64 o, .int .i64 n] ∧ I64 k ∧ I64 o ∧ I64 n := by
  obtain ⟨f0, f1, f2, hu, o0, o1, o2, t0, t1, t2⟩ := step_fields
  obtain ⟨xs, m, -, -, hl, hxl, hf⟩ := DataW.trod_struct hu h
  rw [step_cells] at hl
  match xs, hxl, cs, hl with
  | [y0, y1, y2], _, [v0, v1, v2], _ =>
    have g0 := hf 0 f0 rfl
    have g1 := hf 1 f1 rfl
    have g2 := hf 2 f2 rfl
    simp [o0, o1, o2, t0, t1, t2, one_cell] at g0 g1 g2
    obtain ⟨a0, e0, -, w0⟩ := DataW.trod_int i64_u g0
    obtain ⟨a1, e1, -, w1⟩ := DataW.trod_int i64_u g1
    obtain ⟨a2, e2, -, w2⟩ := DataW.trod_int i64_u g2
    simp at e0 e1 e2
    exact ⟨a0, a1, a2, by rw [e0, e1, e2], I64.of_wf w0, I64.of_wf w1, I64.of_wf w2⟩
set_option maxRecDepth 100000 in
theorem open_event {fuel : Nat} {cs : List Value} {x : DataW H × List MemPlace} (h : DataW.trod enc Try.prog w base spare held fuel 57 cs = some x) : ∃ e : Ev, cs = [.int .i64 e.c, .int .i64 e.k, .int .i64 e.o, .int .i64 e.n] ∧ I64 e.c ∧ I64 e.k ∧ I64 e.o ∧ I64 e.n := by
  obtain ⟨f0, f1, hu, o0, o1, t0, t1⟩ := ev_fields
  obtain ⟨xs, m, -, -, hl, hxl, hf⟩ := DataW.trod_struct hu h
  rw [ev_cells] at hl
  match xs, hxl, cs, hl with
  | [y0, y1], _, [v0, v1, v2, v3], _ =>
    have g0 := hf 0 f0 rfl
    have g1 := hf 1 f1 rfl
    simp [o0, o1, t0, t1, one_cell, step_cells] at g0 g1
    obtain ⟨a0, e0, -, w0⟩ := DataW.trod_int i64_u g0
    obtain ⟨a1, a2, a3, e1, w1, w2, w3⟩ := open_step g1
    simp at e0 e1
    obtain ⟨e1, e2, e3⟩ := e1
    exact ⟨⟨a0, a1, a2, a3⟩, by rw [e0, e1, e2, e3], I64.of_wf w0, w1, w2, w3⟩
set_option maxRecDepth 100000 in
/-- The argument, opened. -/
theorem arg_evs {a : Option Addr} {len cap : Nat} {d : DataW H} {p : List MemPlace} (h : DataW.Trod enc Try.prog w base spare held 22 (.slice a len cap) d p) :
    ∃ evs : List Ev, evs.length = len ∧ EvsAt w a evs ∧ len ≤ cap ∧ cap ≤ maxLen ∧ ∀ e ∈ evs, I64 e.c ∧ I64 e.k ∧ I64 e.o ∧ I64 e.n := by
  obtain ⟨fuel, h⟩ := h
  rcases Go.Deep.open_slice evs_u h with ⟨h0, -⟩ | ⟨a', len', cap', m, n, D, Pl, h0, hb, hl, hm, hmm, -, hx⟩
  · simp [Value.cells] at h0
    obtain ⟨rfl, rfl, rfl⟩ := h0
    exact ⟨[], rfl, fun j e he => by simp at he, Nat.le_refl _, by unfold maxLen; omega, fun e he => by cases he⟩
  · simp [Value.cells] at h0
    obtain ⟨rfl, rfl, rfl⟩ := h0
    have hlm : len ≤ m := by rw [hmm]; split <;> omega
    have each : ∀ i, i < m → ∃ e : Ev, (∀ q, q < 4 → w.cell? ((a'.add (i * 4)).add q) = [Value.int .i64 e.c, .int .i64 e.k, .int .i64 e.o, .int .i64 e.n][q]?) ∧ I64 e.c ∧ I64 e.k ∧ I64 e.o ∧ I64 e.n := fun i hi => by
      obtain ⟨cs, h1, h2⟩ := hx i hi
      rw [ev_cells] at h1
      obtain ⟨_, _, hcell⟩ := World.cells?_some h1
      obtain ⟨e, rfl, w1, w2, w3, w4⟩ := open_event h2
      exact ⟨e, hcell, w1, w2, w3, w4⟩
    obtain ⟨f, hf⟩ : ∃ f : Nat → Ev, ∀ i, i < m → (∀ q, q < 4 → w.cell? ((a'.add (i * 4)).add q) = [Value.int .i64 (f i).c, .int .i64 (f i).k, .int .i64 (f i).o, .int .i64 (f i).n][q]?) ∧ I64 (f i).c ∧ I64 (f i).k ∧ I64 (f i).o ∧ I64 (f i).n :=
      ⟨fun i => if h : i < m then (each i h).choose else ⟨0, 0, 0, 0⟩, fun i hi => by simp only [dif_pos hi]; exact (each i hi).choose_spec⟩
    refine ⟨(List.range len).map f, by simp, fun j e he => ?_, hl, hm, fun e he => ?_⟩
    · have hj : j < len := by
        have := (List.getElem?_eq_some_iff.1 he).1
        simpa using this
      rw [List.getElem?_map, List.getElem?_range hj] at he
      cases he
      obtain ⟨hc, -⟩ := hf j (by omega)
      obtain ⟨xb, xo, spot⟩ := a'
      have h00 := (hf 0 (by omega)).1 0 (by omega)
      have hspot : spot = none := by simpa [Addr.add] using World.cell?_spot (v := .int .i64 (f 0).c) (by simpa [Addr.add] using h00)
      subst hspot
      have hadd : ∀ q, ((⟨xb, xo, none⟩ : Addr).add (j * 4)).add q = ⟨xb, xo + j * 4 + q, none⟩ := fun q => by rw [add_plain, add_plain]
      have c0 := hc 0 (by omega)
      have c1 := hc 1 (by omega)
      have c2 := hc 2 (by omega)
      have c3 := hc 3 (by omega)
      rw [hadd] at c0 c1 c2 c3
      exact ⟨xb, xo, rfl, lt_of_cell c0, c0, c1, c2, c3⟩
    · simp at he
      obtain ⟨i, hi, rfl⟩ := he
      exact (hf i (by omega)).2
end
end Go.Proofs.Ytdgdfpgekccibab
