import Derived.Test.YtpdcinicnekeoaaLC
import Derived.Test.YtpdcinicnekeoaaNA
import Derived.Deep.Slices
import Derived.ChangeArms
import Derived.SizedLaws
/-! watch: what is handed in: changes, acts. -/
namespace Go.Proofs.Ytpdcinicnekeoaa
open Go Go.ChangeShapes Go.WideShapes Go.ChangeAt Go.RowKit Go.Watch
theorem laid_out : laidOutB Try.prog = true := by kernel_rfl
theorem chgs_u : Try.prog.underlying 23 = some (.slice 30) := by kernel_rfl
theorem acts_u : Try.prog.underlying 34 = some (.slice 40) := by kernel_rfl
theorem chg_cells : Try.prog.cellsOf 30 = 4 := by kernel_rfl
theorem act_cells : Try.prog.cellsOf 40 = 6 := by kernel_rfl
theorem int_cell : Try.prog.cellsOf 3 = 1 := by kernel_rfl
theorem i64_cell : Try.prog.cellsOf 2 = 1 := by kernel_rfl
theorem str_cell : Try.prog.cellsOf 9 = 1 := by kernel_rfl
theorem bool_cell : Try.prog.cellsOf 4 = 1 := by kernel_rfl
theorem chgs_cell : Try.prog.cellsOf 23 = 1 := by kernel_rfl
theorem chg_bytes : Try.prog.bytesOf 30 = 48 := by kernel_rfl
theorem act_bytes : Try.prog.bytesOf 40 = 72 := by kernel_rfl
theorem int_u : Try.prog.underlying 3 = some (.int .i64) := by kernel_rfl
theorem i64_u : Try.prog.underlying 2 = some (.int .i64) := by kernel_rfl
theorem str_u : Try.prog.underlying 9 = some .string := by kernel_rfl
theorem bool_u : Try.prog.underlying 4 = some .bool := by kernel_rfl
theorem chg_fields : ∃ f0 f1 f2 f3 : Field, Try.prog.underlying 30 = some (.struct #[f0, f1, f2, f3]) ∧ f0.offset = 0 ∧ f1.offset = 1 ∧ f2.offset = 2 ∧ f3.offset = 3 ∧ f0.type = 2 ∧ f1.type = 9 ∧ f2.type = 9 ∧ f3.type = 3 := ⟨_, _, _, _, Try.underlying30, rfl, rfl, rfl, rfl, rfl, rfl, rfl, rfl⟩
theorem act_fields : ∃ f0 f1 f2 f3 f4 f5 : Field, Try.prog.underlying 40 = some (.struct #[f0, f1, f2, f3, f4, f5]) ∧ (f0.offset = 0 ∧ f1.offset = 1 ∧ f2.offset = 2 ∧ f3.offset = 3 ∧ f4.offset = 4 ∧ f5.offset = 5) ∧ f0.type = 2 ∧ f1.type = 23 ∧ f2.type = 4 ∧ f3.type = 2 ∧ f4.type = 2 ∧ f5.type = 9 := ⟨_, _, _, _, _, _, Try.underlying40, ⟨rfl, rfl, rfl, rfl, rfl, rfl⟩, rfl, rfl, rfl, rfl, rfl, rfl⟩
theorem wf_le {n : Int} (h : (Lit.int .i64 n).wf = true) : n ≤ 9223372036854775807 := by
  simp [Lit.wf] at h
  omega
section
variable {H : Type} {enc : TypeId × Value → H} {w : World} {base : Nat} {spare : Nat → Bool} {held : Bool}
set_option maxRecDepth 100000 in
theorem open_chg {fuel : Nat} {cs : List Value} {x : DataW H × List MemPlace} (h : DataW.trod enc Try.prog w base spare held fuel 30 cs = some x) : ∃ c : Chg, cs = chgCs c := by
  obtain ⟨f0, f1, f2, f3, hu, o0, o1, o2, o3, t0, t1, t2, t3⟩ := chg_fields
  obtain ⟨xs, m, -, -, hl, hxl, hf⟩ := DataW.trod_struct hu h
  rw [chg_cells] at hl
  match xs, hxl, cs, hl with
  | [y0, y1, y2, y3], _, [v0, v1, v2, v3], _ =>
    have g0 := hf 0 f0 rfl
    have g1 := hf 1 f1 rfl
    have g2 := hf 2 f2 rfl
    have g3 := hf 3 f3 rfl
    simp [o0, o1, o2, o3, t0, t1, t2, t3, int_cell, i64_cell, str_cell] at g0 g1 g2 g3
    obtain ⟨a0, e0, -, -⟩ := DataW.trod_int i64_u g0
    obtain ⟨a1, e1, -, -⟩ := DataW.trod_string str_u g1
    obtain ⟨a2, e2, -, -⟩ := DataW.trod_string str_u g2
    obtain ⟨a3, e3, -, -⟩ := DataW.trod_int int_u g3
    simp at e0 e1 e2 e3
    exact ⟨⟨a0, a1, a2, a3⟩, by rw [e0, e1, e2, e3]; rfl⟩
set_option maxRecDepth 100000 in
/-- A list of changes, opened. -/
theorem open_chgs {fuel : Nat} {cs : List Value} {x : DataW H × List MemPlace} (h : DataW.trod enc Try.prog w base spare held fuel 23 cs = some x) (hw : ∀ k ∈ x.1.weights Try.prog 23, k ≤ reachBytes) :
    ∃ (a : Option Addr) (l : List Chg) (cap : Nat), cs = [.slice a l.length cap] ∧ ChgsAt (fun _ => True) w a l ∧ l.length ≤ cap ∧ cap ≤ 9223372036854775807 ∧ l.length * 48 ≤ 140737488351232 := by
  rcases Go.Deep.open_slice chgs_u h with ⟨h0, -⟩ | ⟨a', len, cap, m, n, D, Pl, h0, hb, hl, hm, hmm, hxe, hx⟩
  · exact ⟨none, [], 0, h0, ChgsAt.nil, Nat.le_refl _, by omega, by simp⟩
  · have hlm : len ≤ m := by rw [hmm]; split <;> omega
    have each : ∀ i, i < m → ∃ e : Chg, ∀ q, q < 4 → w.cell? ((a'.add (i * 4)).add q) = (chgCs e)[q]? := fun i hi => by
      obtain ⟨cs, h1, h2⟩ := hx i hi
      rw [chg_cells] at h1
      obtain ⟨_, _, hcell⟩ := World.cells?_some h1
      obtain ⟨e, rfl⟩ := open_chg h2
      exact ⟨e, hcell⟩
    obtain ⟨f, hf⟩ : ∃ f : Nat → Chg, ∀ i, i < m → ∀ q, q < 4 → w.cell? ((a'.add (i * 4)).add q) = (chgCs (f i))[q]? :=
      ⟨fun i => if h : i < m then (each i h).choose else ⟨0, ⟨#[]⟩, ⟨#[]⟩, 0⟩, fun i hi => by simp only [dif_pos hi]; exact (each i hi).choose_spec⟩
    have hsz : len * 48 ≤ 140737488351232 := by
      have := hw ((len + (m - len)) * 48) (by rw [hxe]; simp only [DataW.weights, chgs_u, chg_bytes, List.length_map, List.length_range]; exact List.mem_cons_self ..)
      simp only [reachBytes] at this
      omega
    refine ⟨some a', (List.range len).map f, cap, by simpa using h0, fun j e he => ?_, by simpa using hl, by unfold maxLen at hm; omega, by simpa using hsz⟩
    have hj : j < len := by
      have := (List.getElem?_eq_some_iff.1 he).1
      simpa using this
    rw [List.getElem?_map, List.getElem?_range hj] at he
    cases he
    have hc := hf j (by omega)
    obtain ⟨xb, xo, spot⟩ := a'
    have h00 := hf 0 (by omega) 0 (by omega)
    have hspot : spot = none := by simpa [Addr.add] using World.cell?_spot (v := .int .i64 (f 0).st) (by simpa [Addr.add, chgCs] using h00)
    subst hspot
    have hadd : ∀ q, ((⟨xb, xo, none⟩ : Addr).add (j * 4)).add q = ⟨xb, xo + j * 4 + q, none⟩ := fun q => by rw [add_plain, add_plain]
    have c0 := hc 0 (by omega)
    have c1 := hc 1 (by omega)
    have c2 := hc 2 (by omega)
    have c3 := hc 3 (by omega)
    rw [hadd] at c0 c1 c2 c3
    exact ⟨xb, xo, rfl, trivial, c0, c1, c2, c3⟩
set_option maxRecDepth 100000 in
theorem open_act {fuel : Nat} {cs : List Value} {x : DataW H × List MemPlace} (h : DataW.trod enc Try.prog w base spare held fuel 40 cs = some x) (hw : ∀ k ∈ x.1.weights Try.prog 40, k ≤ reachBytes) :
    ∃ c : Ac, cs = [.int .i64 c.st, .slice c.ca c.ch.length c.cc, .bool c.ask, .int .i64 c.af, .int .i64 c.lim, .string c.inn] ∧ ChgsAt (fun _ => True) w c.ca c.ch ∧ c.ch.length ≤ c.cc ∧ c.cc ≤ 9223372036854775807 ∧ c.ch.length ≤ 4398046511104 ∧ c.st ≤ 9223372036854775807 := by
  obtain ⟨f0, f1, f2, f3, f4, f5, hu, ⟨o0, o1, o2, o3, o4, o5⟩, t0, t1, t2, t3, t4, t5⟩ := act_fields
  obtain ⟨xs, m, -, hxe, hl, hxl, hf⟩ := DataW.trod_struct hu h
  subst hxe
  rw [act_cells] at hl
  match xs, hxl, cs, hl with
  | [y0, y1, y2, y3, y4, y5], _, [v0, v1, v2, v3, v4, v5], _ =>
    have g0 := hf 0 f0 rfl
    have g1 := hf 1 f1 rfl
    have g2 := hf 2 f2 rfl
    have g3 := hf 3 f3 rfl
    have g4 := hf 4 f4 rfl
    have g5 := hf 5 f5 rfl
    simp [o0, o1, o2, o3, o4, o5, t0, t1, t2, t3, t4, t5, i64_cell, str_cell, bool_cell, chgs_cell] at g0 g1 g2 g3 g4 g5
    obtain ⟨a0, e0, -, w0⟩ := DataW.trod_int i64_u g0
    obtain ⟨ca, l, cap, e1, hc, hl1, hl2, hl3⟩ := open_chgs g1 (fun k hk => hw k (by simp [DataW.weights, hu, DataW.weightsEach, t1, hk]))
    obtain ⟨a2, e2, -⟩ := DataW.trod_bool bool_u g2
    obtain ⟨a3, e3, -, -⟩ := DataW.trod_int i64_u g3
    obtain ⟨a4, e4, -, -⟩ := DataW.trod_int i64_u g4
    obtain ⟨a5, e5, -, -⟩ := DataW.trod_string str_u g5
    simp at e0 e1 e2 e3 e4 e5
    exact ⟨⟨a0, l, ca, cap, a2, a3, a4, a5⟩, by rw [e0, e1, e2, e3, e4, e5], hc, hl1, hl2, by show l.length ≤ _; omega, wf_le w0⟩
theorem weights_all {H : Type} (P : Program) (e : TypeId) : ∀ (l : List (DataW H)) (d : DataW H), d ∈ l → ∀ n ∈ d.weights P e, n ∈ DataW.weightsAll P e l
  | [], d, hd => by cases hd
  | x :: r, d, hd => fun n hn => by
    simp only [DataW.weightsAll, List.mem_append]
    rcases List.mem_cons.1 hd with rfl | h
    · exact .inl hn
    · exact .inr (weights_all P e r d h n hn)
set_option maxRecDepth 100000 in
/-- The argument acts, opened. -/
theorem arg_acts {a : Option Addr} {len cap : Nat} {d : DataW H} {p : List MemPlace} (h : DataW.Trod enc Try.prog w base spare held 34 (.slice a len cap) d p) (hw : ∀ k ∈ d.weights Try.prog 34, k ≤ reachBytes) :
    ∃ l : List Ac, l.length = len ∧ ActsAt w a l ∧ len ≤ 4611686018427387904 := by
  obtain ⟨fuel, h⟩ := h
  rcases Go.Deep.open_slice acts_u h with ⟨h0, -⟩ | ⟨a', len', cap', m, n, D, Pl, h0, hb, hl, hm, hmm, hxe, hx⟩
  · simp [Value.cells] at h0
    obtain ⟨rfl, rfl, rfl⟩ := h0
    exact ⟨[], rfl, fun j e he => by simp at he, by omega⟩
  · simp [Value.cells] at h0
    obtain ⟨rfl, rfl, rfl⟩ := h0
    cases hxe
    have hlm : len ≤ m := by rw [hmm]; split <;> omega
    have hsz : len * 72 ≤ 140737488351232 := by
      have := hw ((len + (m - len)) * 72) (by simp only [DataW.weights, acts_u, act_bytes, List.length_map, List.length_range]; exact List.mem_cons_self ..)
      simp only [reachBytes] at this
      omega
    have each : ∀ i, i < len → ∃ e : Ac, (∀ q, q < 6 → w.cell? ((a'.add (i * 6)).add q) = [Value.int .i64 e.st, .slice e.ca e.ch.length e.cc, .bool e.ask, .int .i64 e.af, .int .i64 e.lim, .string e.inn][q]?) ∧ ChgsAt (fun _ => True) w e.ca e.ch ∧ e.ch.length ≤ e.cc ∧ e.cc ≤ 9223372036854775807 ∧ e.ch.length ≤ 4398046511104 ∧ e.st ≤ 9223372036854775807 := fun i hi => by
      obtain ⟨cs, h1, h2⟩ := hx i (by omega)
      rw [act_cells] at h1
      obtain ⟨_, _, hcell⟩ := World.cells?_some h1
      obtain ⟨e, rfl, r⟩ := open_act h2 (fun k hk => hw k (by
        simp only [DataW.weights, acts_u]
        refine List.mem_cons_of_mem _ (List.mem_append_left _ (weights_all _ _ _ (D i) ?_ k hk))
        exact List.mem_map.2 ⟨i, List.mem_range.2 hi, rfl⟩))
      exact ⟨e, hcell, r⟩
    obtain ⟨f, hf⟩ : ∃ f : Nat → Ac, ∀ i, i < len → (∀ q, q < 6 → w.cell? ((a'.add (i * 6)).add q) = [Value.int .i64 (f i).st, .slice (f i).ca (f i).ch.length (f i).cc, .bool (f i).ask, .int .i64 (f i).af, .int .i64 (f i).lim, .string (f i).inn][q]?) ∧ ChgsAt (fun _ => True) w (f i).ca (f i).ch ∧ (f i).ch.length ≤ (f i).cc ∧ (f i).cc ≤ 9223372036854775807 ∧ (f i).ch.length ≤ 4398046511104 ∧ (f i).st ≤ 9223372036854775807 :=
      ⟨fun i => if h : i < len then (each i h).choose else ⟨0, [], none, 0, false, 0, 0, ⟨#[]⟩⟩, fun i hi => by simp only [dif_pos hi]; exact (each i hi).choose_spec⟩
    refine ⟨(List.range len).map f, by simp, fun j e he => ?_, by omega⟩
    have hj : j < len := by
      have := (List.getElem?_eq_some_iff.1 he).1
      simpa using this
    rw [List.getElem?_map, List.getElem?_range hj] at he
    cases he
    obtain ⟨hc, r⟩ := hf j hj
    obtain ⟨xb, xo, spot⟩ := a'
    have h00 := (hf 0 (by omega)).1 0 (by omega)
    have hspot : spot = none := by simpa [Addr.add] using World.cell?_spot (v := .int .i64 (f 0).st) (by simpa [Addr.add] using h00)
    subst hspot
    have hadd : ∀ q, ((⟨xb, xo, none⟩ : Addr).add (j * 6)).add q = ⟨xb, xo + j * 6 + q, none⟩ := fun q => by rw [add_plain, add_plain]
    have c0 := hc 0 (by omega)
    have c1 := hc 1 (by omega)
    have c2 := hc 2 (by omega)
    have c3 := hc 3 (by omega)
    have c4 := hc 4 (by omega)
    have c5 := hc 5 (by omega)
    rw [hadd] at c0 c1 c2 c3 c4 c5
    exact ⟨xb, xo, rfl, ⟨c0, c1, c2, c3, c4, c5⟩, r⟩
end
end Go.Proofs.Ytpdcinicnekeoaa
